/-
  Lemmas and walks, joined: AscH, AscI, AscJ.
-/
import Derived.Test.YtgfohfgallojkaaM07
import Derived.Test.YtgfohfgallojkaaM04
import Derived.Laws.IdiomStrings
namespace Go.Proofs.Ytgfohfgallojkaa
open Go.RowKit Oct Asc Go.Shelf

theorem ext_many {R : ByteArray} {l : List UInt8} (h : R.data.toList = l) (n : Nat) : (R.extract 0 n).data.toList = l.take n ∧ (R.extract n R.size).data.toList = l.drop n := by
  have hs := len_size h
  constructor
  · rw [ByteArray.data_extract, Array.toList_extract, h, List.extract_eq_take_drop]
    simp
  · rw [ByteArray.data_extract, Array.toList_extract, h, List.extract_eq_take_drop, hs]
    rw [List.take_of_length_le (by rw [List.length_drop]; exact Nat.le_refl _)]
theorem dtake_many (B g : Nat) (r : Option Nat) (rest o : List UInt8) (m n : Nat) (P : ByteArray) (hn : n ≤ rest.length) (hP : P.data.toList = rest.take n) (w : World) (h : Dec B w g r rest o m) :
    Calls Try.prog 42 #[.pointer (some ⟨g, 0, none⟩), .int .i64 (n : Int)] w fun e w' => e = .returned (.string P) ∧ Read1 B w g r (rest.drop n) o m w' := by
  obtain ⟨R, v, h1, h2, h3, h4, h5, h6, h7⟩ := h
  obtain ⟨e1, e2⟩ := ext_many h1 n
  have hs := len_size h1
  refine (take_ok n g R v m w h2 (by omega) h3).mono ?_
  rintro e w' ⟨he, hX, hg⟩
  have hPe : R.extract 0 n = P := by
    apply ByteArray.ext
    apply Array.ext'
    rw [e1, hP]
  rw [hPe] at he
  exact ⟨he, Dec.grown h4 h5 h6 h7 hg e2 (by rw [ByteArray.size_extract]; omega) hX, two_of_grown hg⟩
theorem dtake_few (B g : Nat) (r : Option Nat) (rest o : List UInt8) (m : Nat) (n : Int) (hn : (rest.length : Int) < n) (w : World) (h : Dec B w g r rest o m) :
    Calls Try.prog 42 #[.pointer (some ⟨g, 0, none⟩), .int .i64 n] w fun e w' => e = gUp 4 ∧ w = w' := by
  obtain ⟨R, v, h1, h2, h3, h4, h5, h6, h7⟩ := h
  have hs := len_size h1
  exact take_no n g R v m w h2 (by omega) h3

theorem dtake_c (B g : Nat) (r : Option Nat) (c : UInt8) (t o : List UInt8) (m : Nat) (P : ByteArray) (hP : (⟨#[c]⟩ : ByteArray) = P) (w : World) (h : Dec B w g r (c :: t) o m) :
    Calls Try.prog 42 #[.pointer (some ⟨g, 0, none⟩), .int .i64 1] w fun e w' => e = .returned (.string P) ∧ Read1 B w g r t o m w' := hP ▸ dtake_one B g r c t o m w h
theorem one_byte (c : UInt8) : ∃ P : ByteArray, (⟨#[c]⟩ : ByteArray) = P ∧ ∃ h : 0 < P.size, P[0] = c := ⟨⟨#[c]⟩, rfl, (by decide : 0 < 1), rfl⟩
theorem bytes_of (l : List UInt8) : ∃ s : ByteArray, s.data.toList = l := ⟨⟨l.toArray⟩, rfl⟩
theorem bytesRow_at {P : ByteArray} {l : List UInt8} (hP : P.data.toList = l) (cap : Nat) : ∀ (j : Nat) u, (cellsOf l)[j]? = some u → (bytesRow P cap).toList[j]? = some u := by
  intro j u hu
  unfold bytesRow
  rw [Array.toList_append, Array.toList_map, hP]
  unfold cellsOf at hu
  have hj : j < (l.map fun b => Value.int .u8 (b.toNat : Int)).length := by
    rcases Nat.lt_or_ge j (l.map fun b => Value.int .u8 (b.toNat : Int)).length with h | h
    · exact h
    · rw [List.getElem?_eq_none h] at hu; cases hu
  rw [List.getElem?_append_left hj]
  exact hu
theorem put_conv_no {B g : Nat} {r : Option Nat} {rest o : List UInt8} {m : Nat} {x : Obj} {n cap : Nat} {w : World} (hm : m ≤ 1048576) (hol : o.length ≤ m) (h : Dec B w g r rest o m) (hn : m < o.length + n) :
    Calls Try.prog 40 #[.pointer (some ⟨g, 0, none⟩), .slice (some ⟨w.heap.size, 0, none⟩) n cap] (w.alloc x).drew fun e w' => e = gUp 5 ∧ Two w w' g r := by
  refine (put_no B g r rest o m _ n cap _ hm hol ((h.alloc x).drewN 1) hn).mono ?_
  rintro e w' ⟨rfl, q, rfl⟩
  exact ⟨rfl, (((Two.refl w g r).alloc x).drewN 1).drewN q⟩
theorem put_conv_ok {B g : Nat} {r : Option Nat} {rest o l : List UInt8} {m : Nat} {P : ByteArray} {n cap c2 : Nat} {fr : Nat × Nat} {w : World} (hB : B ≤ w.heap.size) (hm : m ≤ 1048576) (h : Dec B w g r rest o m) (hP : P.data.toList = l) (hPs : P.size = n) (hn : ¬ m < o.length + n) (hp : 0 < n) :
    Calls Try.prog 40 #[.pointer (some ⟨g, 0, none⟩), .slice (some ⟨w.heap.size, 0, none⟩) n c2] (w.alloc (.cells (bytesRow P cap) 5 fr)).drew fun e w' => e = .returned (.tuple #[]) ∧ Put B w g r rest (o ++ l) m w' := by
  have hX : (w.alloc (.cells (bytesRow P cap) 5 fr)).drew.heap[w.heap.size]? = some (.cells (bytesRow P cap) 5 fr) := heap_alloc_new w _
  refine (put_ok B g r rest o l m ⟨w.heap.size, 0, none⟩ n c2 _ (by simp [World.drew]; omega) hm (by omega) ((h.alloc _).drewN 1) (by rw [← len_size hP, hPs]) hp ?_).mono ?_
  · intro W hW j u hu
    exact World.news_of_block ((hW w.heap.size (by simp [World.drew])).trans hX) j u (bytesRow_at hP cap j u hu)
  · rintro e w' ⟨rfl, hp⟩
    exact ⟨rfl, Put.then (.inl rfl) (((Two.refl w g r).alloc _).drewN 1) hp⟩
theorem rep_c (d : UInt8) (q : Nat) (P : ByteArray) (hq : q ≤ 300) (hP : (⟨(Lib.repeatL (⟨#[d]⟩ : ByteArray).data.toList q).toArray⟩ : ByteArray) = P) (W : World) :
    Calls Try.prog 45 #[.string ⟨#[d]⟩, .int .i64 (q : Int)] W fun e w' => e = .returned (.string P) ∧ Below W.heap.size W w' := by
  subst hP
  exact Try.strings_Repeat ⟨#[d]⟩ q W (by omega) (by show 1 * q ≤ _; omega)
theorem rep_list (d : UInt8) (q : Nat) : Lib.repeatL [d] q = List.replicate q d := by
  induction q with
  | zero => rfl
  | succ q ih => show [d] ++ Lib.repeatL [d] q = _; rw [ih, List.replicate_succ]; rfl
theorem byte_conv (c : UInt8) : wrap64 (c.toNat : Int) = (c.toNat : Int) := IntWalk.wrap64_in _ (by have := c.toNat_lt; omega)

set_option maxRecDepth 100000 in
set_option maxHeartbeats 4000000 in
theorem unrun_in (B g : Nat) (r : Option Nat) (rest : List UInt8) (m : Nat) (w : World) (hB : B ≤ w.heap.size) (hm : m ≤ 1048576) (F : Int × List UInt8) (hF : F = runD m [] rest) (h : Dec B w g r rest [] m) :
    Calls Try.prog 28 #[.pointer (some ⟨g, 0, none⟩)] w (DecEnd B w g r m F) := by
  have HF := Lib.hid hF
  have H := Lib.hid h
  have hcv := fun (P : ByteArray) (W : World) => run_bytes_of_string (P := Try.prog) W 9 29 5 P Try.underlying9 Try.underlying29 Try.underlying5
  clear hF h
  go_enter Try.func28, Try.ntmps28
  go_wp2_with fail
  go_loopw [] (fun wr => ∃ (r' : Option Nat) (rest o : List UInt8), (r' = r ∨ ∃ k, r' = some k ∧ w.heap.size ≤ k) ∧ Dec B wr g r' rest o m ∧ Two w wr g r ∧ o.length ≤ m ∧ F = runD m o rest) (fun wr => restAt wr g)
  case atStart => exact ⟨r, rest, [], .inl rfl, H.out, Two.refl _ _ _, by simp, HF.out⟩
  case round =>
    clear H HF
    obtain ⟨r1, rest1, o, hr, hD, hT, ho, hF⟩ := hrel
    have HM := Lib.hid (dec_rest hD)
    have HR := Lib.hid hr
    have HT := Lib.hid hT
    have HD := Lib.hid hD
    have HO := Lib.hid ho
    clear hr hT hD ho
    rcases rest1 with _ | ⟨c, t⟩
    · rw [runD_nil] at hF
      have HF := Lib.hid hF
      clear hF
      go_wp2_with fail
      refine (dtake_no B g r1 o m _ HD.out).mono ?_
      rintro e w1 ⟨rfl, rfl⟩
      refine ⟨rfl, ?_⟩
      exact end_no HR.out HT.out (Two.refl _ _ _) HF.out (by decide)
    · obtain ⟨S, hS, s0, s1⟩ := one_byte c
      have HS := Lib.hid hS
      have hc255 : (c.toNat : Int) ≤ 255 := by have := c.toNat_lt; omega
      have hc0 : (0 : Int) ≤ (c.toNat : Int) := by omega
      clear hS
      by_cases h128 : c = 128
      · subst h128
        rw [runD_end] at hF
        have HF := Lib.hid hF
        clear hF
        go_wp2_with fail
        refine (dtake_c B g r1 128 t o m S HS.out _ HD.out).mono ?_
        rintro e w1 ⟨rfl, hd1, ht⟩
        have HD1 := Lib.hid hd1
        have HT1 := Lib.hid ht
        clear hd1 ht
        go_wp2_with fail
        go_end0
        exact end_ok HR.out HT.out (read_put ⟨HD1.out, HT1.out⟩) HF.out
      · have h128' : ((c.toNat : Int) == 128) = false := asc_ne h128
        have hc128 : c.toNat ≠ 128 := fun e => h128 (by apply UInt8.toNat_inj.1; exact e)
        by_cases hlt : c.toNat < 128
        · have hlt' : (c.toNat : Int) < 128 := by omega
          rw [runD_lit _ _ _ hlt] at hF
          have HF := Lib.hid hF
          clear hF
          by_cases hfew : t.length < c.toNat + 1
          · have HF2 := Lib.hid (HF.out.trans (if_pos hfew))
            go_wp2_with fail
            refine (dtake_c B g r1 c t o m S HS.out _ HD.out).mono ?_
            rintro e w1 ⟨rfl, hd1, ht⟩
            have HD1 := Lib.hid hd1
            have HT1 := Lib.hid ht
            clear hd1 ht
            go_wp2_with fail
            refine (dtake_few B g r1 t o m ((c.toNat : Int) + 1) (by omega) _ HD1.out).mono ?_
            rintro e w2 ⟨rfl, rfl⟩
            refine ⟨rfl, ?_⟩
            exact end_no HR.out HT.out HT1.out HF2.out (by decide)
          · have HF2 := Lib.hid (HF.out.trans (if_neg hfew))
            obtain ⟨P, hP⟩ : ∃ P : ByteArray, P.data.toList = t.take (c.toNat + 1) := bytes_of _
            have HP := Lib.hid hP
            have hPs : P.size = c.toNat + 1 := by rw [len_size hP, List.length_take]; omega
            clear hP
            go_wp2_with fail
            refine (dtake_c B g r1 c t o m S HS.out _ HD.out).mono ?_
            rintro e w1 ⟨rfl, hd1, ht⟩
            have HD1 := Lib.hid hd1
            have HT1 := Lib.hid ht
            clear hd1 ht
            go_wp2_with fail
            refine (dtake_many B g r1 t o m (c.toNat + 1) P (by omega) HP.out _ HD1.out).mono ?_
            rintro e w2 ⟨rfl, hd1, ht⟩
            have HD2 := Lib.hid hd1
            have HT2 := Lib.hid (HT1.out.trans ht (.inl rfl))
            clear hd1 ht
            go_wp2_with fail
            by_cases hfull : m < o.length + (c.toNat + 1)
            · have HF3 := Lib.hid (HF2.out.trans (if_pos hfull))
              refine (put_conv_no hm HO.out HD2.out hfull).mono ?_
              rintro e w3 ⟨rfl, ht⟩
              refine ⟨rfl, ?_⟩
              exact end_no HR.out HT.out (HT2.out.trans ht (.inl rfl)) HF3.out (by decide)
            · have HF3 := Lib.hid (HF2.out.trans (if_neg hfull))
              refine (put_conv_ok (Nat.le_trans hB (Nat.le_trans HT.out.size HT2.out.size)) hm HD2.out HP.out hPs hfull (by omega)).mono ?_
              rintro e w3 ⟨rfl, hp⟩
              obtain ⟨r2, hr2, hd2, ht2⟩ := Put.then HR.out HT.out (Put.then (.inl rfl) HT2.out hp)
              have HD3 := Lib.hid hd2
              have HT3 := Lib.hid ht2
              have HR3 := Lib.hid hr2
              clear hp hd2 ht2 hr2
              go_wp2_with fail
              go_roundw
              case rel => exact ⟨r2, t.drop (c.toNat + 1), _, HR3.out, HD3.out, HT3.out, by rw [List.length_append, ← len_size HP.out]; omega, HF3.out⟩
              case measure => rw [HM.out, dec_rest HD3.out, List.length_drop, List.length_cons]; omega
        · have hge : ¬ (c.toNat : Int) < 128 := by omega
          have hgt : 128 < c.toNat := by omega
          rcases t with _ | ⟨d, u⟩
          · rw [runD_cut _ _ hgt] at hF
            have HF := Lib.hid hF
            clear hF
            go_wp2_with fail
            refine (dtake_c B g r1 c [] o m S HS.out _ HD.out).mono ?_
            rintro e w1 ⟨rfl, hd1, ht⟩
            have HD1 := Lib.hid hd1
            have HT1 := Lib.hid ht
            clear hd1 ht
            go_wp2_with fail
            refine (dtake_no B g r1 o m _ HD1.out).mono ?_
            rintro e w2 ⟨rfl, rfl⟩
            refine ⟨rfl, ?_⟩
            exact end_no HR.out HT.out HT1.out HF.out (by decide)
          · rw [runD_run _ _ _ _ hgt] at hF
            have HF := Lib.hid hF
            clear hF
            obtain ⟨q, hq⟩ : ∃ q, 257 - c.toNat = q := ⟨_, rfl⟩
            have hqi : 257 - (c.toNat : Int) = (q : Int) := by omega
            obtain ⟨P, hP⟩ : ∃ P : ByteArray, (⟨(Lib.repeatL (⟨#[d]⟩ : ByteArray).data.toList q).toArray⟩ : ByteArray) = P := ⟨_, rfl⟩
            have hPl : P.data.toList = List.replicate q d := by
              rw [← hP]
              exact rep_list d q
            have hPs : P.size = q := by rw [len_size hPl, List.length_replicate]
            have HP := Lib.hid hPl
            have HRp := Lib.hid (rep_c d q P (by omega) hP)
            have hq1 : 1 ≤ q := by have := c.toNat_lt; omega
            rw [hq] at HF
            clear hP hPl
            go_wp2_with fail
            refine (dtake_c B g r1 c (d :: u) o m S HS.out _ HD.out).mono ?_
            rintro e w1 ⟨rfl, hd1, ht⟩
            have HD1 := Lib.hid hd1
            have HT1 := Lib.hid ht
            clear hd1 ht
            go_wp2_with fail
            refine (dtake_one B g r1 d u o m _ HD1.out).mono ?_
            rintro e w2 ⟨rfl, hd1, ht⟩
            have HD2 := Lib.hid hd1
            have HT2 := Lib.hid (HT1.out.trans ht (.inl rfl))
            clear hd1 ht
            go_wp2_with fail
            refine (HRp.out _).mono ?_
            rintro e w3 ⟨rfl, hb⟩
            have HD3 := Lib.hid (Dec.below HD2.out hb)
            have HT3 := Lib.hid (HT2.out.trans (below_two hb) (.inl rfl))
            clear hb
            by_cases hfull : m < o.length + q
            · have HF3 := Lib.hid (HF.out.trans (if_pos hfull))
              go_wp2_with fail
              refine (put_conv_no hm HO.out HD3.out hfull).mono ?_
              rintro e w4 ⟨rfl, ht⟩
              refine ⟨rfl, ?_⟩
              exact end_no HR.out HT.out (HT3.out.trans ht (.inl rfl)) HF3.out (by decide)
            · have HF3 := Lib.hid (HF.out.trans (if_neg hfull))
              go_wp2_with fail
              refine (put_conv_ok (Nat.le_trans hB (Nat.le_trans HT.out.size HT3.out.size)) hm HD3.out HP.out hPs hfull (by omega)).mono ?_
              rintro e w4 ⟨rfl, hp⟩
              obtain ⟨r2, hr2, hd2, ht2⟩ := Put.then HR.out HT.out (Put.then (.inl rfl) HT3.out hp)
              have HD4 := Lib.hid hd2
              have HT4 := Lib.hid ht2
              have HR4 := Lib.hid hr2
              clear hp hd2 ht2 hr2
              go_wp2_with fail
              go_roundw
              case rel => exact ⟨r2, u, _, HR4.out, HD4.out, HT4.out, by rw [List.length_append, List.length_replicate]; omega, HF3.out⟩
              case measure => rw [HM.out, dec_rest HD4.out, List.length_cons, List.length_cons]; omega
end Go.Proofs.Ytgfohfgallojkaa
namespace Go.Proofs.Ytgfohfgallojkaa
open Go.RowKit Oct Asc Go.Shelf

def decS (F : Int × List UInt8) : ByteArray := if F.1 = 0 then ⟨F.2.toArray⟩ else ⟨#[]⟩
/-- The world in which decode works: the boxes of decode, of the decoder, of its pointer, and the error's. -/
structure DecAt (N : Nat) (w : World) (G : FuncId) (s : ByteArray) (m : Nat) : Prop where
  size : w.heap.size = N + 4
  fn : Blk w N 33 #[.func (.func G) #[] #[]]
  dec : Dec N w (N + 1) none s.data.toList [] m
  ptr : Blk w (N + 2) 45 #[.pointer (some ⟨N + 1, 0, none⟩)]
  err : Blk w (N + 3) 23 #[.int .i64 0]

set_option maxRecDepth 100000 in
set_option maxHeartbeats 4000000 in
theorem work_in (N : Nat) (G : FuncId) (s : ByteArray) (m : Nat) (F : Int × List UInt8) (w : World) (hA : DecAt N w G s m) (henter : ∀ (args : Array Value) (W : World), (callFunc G args).run Try.prog W = .ok (.enter G args) W)
    (hG : Calls Try.prog G #[.pointer (some ⟨N + 1, 0, none⟩)] w (DecEnd N w (N + 1) none m F)) :
    Calls Try.prog 37 #[.pointer (some ⟨N, 0, none⟩), .pointer (some ⟨N + 2, 0, none⟩)] w fun e w' =>
      ((F.1 = 0 ∧ e = .returned (.string ⟨F.2.toArray⟩)) ∨ (F.1 ≠ 0 ∧ e = gUp F.1)) ∧ Two w w' (N + 1) none := by
  have c0 : w.cell? ⟨N, 0, none⟩ = some (.func (.func G) #[] #[]) := hA.fn.cell 0
  have c2 : w.cell? ⟨N + 2, 0, none⟩ = some (.pointer (some ⟨N + 1, 0, none⟩)) := hA.ptr.cell 0
  have HA := Lib.hid hA
  have HG := Lib.hid hG
  clear hA hG
  go_enter Try.func37, Try.ntmps37
  go_wp2_with fail
  refine HG.out.mono ?_
  rintro e w1 he
  rcases he with ⟨h1, rfl, rest, r', hr, hD, hT⟩ | ⟨h1, rfl, hT⟩
  · have HT := Lib.hid hT
    have hX2 := hT.blk HA.out.ptr (by omega) (by simp)
    have d2 : w1.cell? ⟨N + 2, 0, none⟩ = some (.pointer (some ⟨N + 1, 0, none⟩)) := hX2.cell 0
    obtain ⟨R, v, k1, k2, k3, k4, k5, k6, k7⟩ := hD
    obtain ⟨A, C, hv⟩ := own_form k4
    have hstr := run_string_of_own k4 rfl
    obtain ⟨q, hq⟩ : ∃ q, F.2.length = q := ⟨_, rfl⟩
    rw [hq] at hv
    subst hv
    have d1 : w1.cell? ⟨N + 1, 1, none⟩ = some (.slice A q C) := k3.cell 1
    have HF := Lib.hid h1
    clear hT hX2 k1 k2 k3 k4 k5 k6 k7 h1 hr hq
    go_wp2_with fail
    go_ret
    exact ⟨.inl ⟨HF.out, rfl⟩, HT.out⟩
  · exact ⟨rfl, .inr ⟨h1, rfl⟩, hT⟩

/-- What decoded answers, where F is what its decoder makes of s. -/
def DecodedIs (F : Int × List UInt8) (w : World) (e : Ending) (w' : World) : Prop := e = .returned (.tuple #[.string (decS F), .int .i64 F.1]) ∧ Below w.heap.size w w'
set_option maxRecDepth 100000 in
set_option maxHeartbeats 4000000 in
theorem decoded_no (G : FuncId) (s : ByteArray) (n : Int) (w : World) (hn : n < 0) :
    Calls Try.prog 20 #[.string s, .int .i64 n, .func (.func G) #[] #[]] w fun e w' => e = .returned (.tuple #[.string ⟨#[]⟩, .int .i64 1]) ∧ Below w.heap.size w w' := by
  have hb := Below.refl w.heap.size w
  go_enter Try.func20, Try.ntmps20
  go_wp2_with fail
  go_ret2
  exact ⟨rfl, hb.alloc (Nat.le_refl _) _⟩
set_option maxRecDepth 100000 in
set_option maxHeartbeats 4000000 in
theorem decoded_in (G : FuncId) (s : ByteArray) (n : Int) (F : Int × List UInt8) (w : World) (hs : s.size ≤ 4000000000) (hn : 0 ≤ n) (henter : ∀ (args : Array Value) (W : World), (callFunc G args).run Try.prog W = .ok (.enter G args) W)
    (hG : ∀ (N : Nat) (W : World), N ≤ W.heap.size → Dec N W (N + 1) none s.data.toList [] (min n 1048576).toNat → Calls Try.prog G #[.pointer (some ⟨N + 1, 0, none⟩)] W (DecEnd N W (N + 1) none (min n 1048576).toNat F)) :
    Calls Try.prog 20 #[.string s, .int .i64 n, .func (.func G) #[] #[]] w (DecodedIs F w) := by
  obtain ⟨m, hm⟩ : ∃ m, (min n 1048576).toNat = m := ⟨_, rfl⟩
  have hmi : min n 1048576 = (m : Int) := by omega
  rw [hm] at hG
  have HG := Lib.hid hG
  have HS := Lib.hid hs
  have hn0 : ¬ n < 0 := by omega
  have hb := Below.refl w.heap.size w
  have HB := Lib.hid hb
  clear hG hs hb
  have hmf : ∀ (fn : Fn) (first cap : Array Value) (w : World), (Instr.makeFunc fn first cap).run Try.prog w = .ok (.func fn first cap) w := fun _ _ _ _ => rfl
  go_enter Try.func20, Try.ntmps20
  go_wp2_with fail
  obtain ⟨W, hW⟩ : ∃ W, (((w.alloc (.cells #[.func (.func G) #[] #[]] 33)).alloc (.cells #[.string s, .slice none 0 0, .int .i64 (m : Int)] 47)).alloc (.cells #[.pointer (some ⟨w.heap.size + 1, 0, none⟩)] 45)) = W := ⟨_, rfl⟩
  have hAt : DecAt w.heap.size (W.alloc (.cells #[.int .i64 0] 23)) G s m := by
    rw [← hW]
    have z1 : (w.alloc (.cells #[.func (.func G) #[] #[]] 33)).heap.size = w.heap.size + 1 := World.size_alloc _ _
    have z2 : ((w.alloc (.cells #[.func (.func G) #[] #[]] 33)).alloc (.cells #[.string s, .slice none 0 0, .int .i64 (m : Int)] 47)).heap.size = w.heap.size + 2 := by rw [World.size_alloc, z1]
    have z3 : (((w.alloc (.cells #[.func (.func G) #[] #[]] 33)).alloc (.cells #[.string s, .slice none 0 0, .int .i64 (m : Int)] 47)).alloc (.cells #[.pointer (some ⟨w.heap.size + 1, 0, none⟩)] 45)).heap.size = w.heap.size + 3 := by rw [World.size_alloc, z2]
    have b1 := Blk.new (w.alloc (.cells #[.func (.func G) #[] #[]] 33)) 47 #[.string s, .slice none 0 0, .int .i64 (m : Int)]
    rw [z1] at b1
    have b2 := Blk.new ((w.alloc (.cells #[.func (.func G) #[] #[]] 33)).alloc (.cells #[.string s, .slice none 0 0, .int .i64 (m : Int)] 47)) 45 #[.pointer (some ⟨w.heap.size + 1, 0, none⟩)]
    rw [z2] at b2
    have b3 := Blk.new (((w.alloc (.cells #[.func (.func G) #[] #[]] 33)).alloc (.cells #[.string s, .slice none 0 0, .int .i64 (m : Int)] 47)).alloc (.cells #[.pointer (some ⟨w.heap.size + 1, 0, none⟩)] 45)) 23 #[.int .i64 0]
    rw [z3] at b3
    exact ⟨by rw [World.size_alloc, z3], ((Blk.new w _ _).alloc _).alloc _ |>.alloc _, ⟨s, .slice none 0 0, rfl, HS.out, (b1.alloc _).alloc _, World.ownsRow_nil _ _ _ _, rfl, by simp, by omega⟩, b2.alloc _, b3⟩
  have hbW : Below w.heap.size w (W.alloc (.cells #[.int .i64 0] 23)) := by
    rw [← hW]
    exact (((HB.out.alloc (Nat.le_refl _) _).alloc (by simp) _).alloc (by simp; omega) _).alloc (by simp; omega) _
  have hWs : W.heap.size = w.heap.size + 3 := by have := hAt.size; rw [World.size_alloc] at this; omega
  have hin : ∀ (args : Array Value) (W : World), (callFunc 37 args).run Try.prog W = .ok (.enter 37 args) W := fun _ _ => by kernel_rfl
  have hwork := work_in w.heap.size G s m F _ hAt henter (HG.out _ _ (by rw [hAt.size]; omega) hAt.dec)
  have hkeep : ∀ w', Two (W.alloc (.cells #[.int .i64 0] 23)) w' (w.heap.size + 1) none → Blk w' W.heap.size 23 #[.int .i64 0] := fun w' h => by
    rw [hWs]
    exact h.blk hAt.err (by omega) (by simp)
  have hend : ∀ w' (u : Value), Two (W.alloc (.cells #[.int .i64 0] 23)) w' (w.heap.size + 1) none → Below w.heap.size w (w'.setCell ⟨W.heap.size, 0, none⟩ u) := fun w' u h => by
    refine set_low (hbW.trans ((h.below (B := w.heap.size) (by rw [hAt.size]; omega) (by omega) (fun k hk => by cases hk)).mono ?_)) (by omega) _ _
    exact Nat.le_refl _
  have HE := Lib.hid hend
  have HK := Lib.hid hkeep
  have HWk := Lib.hid hwork
  have HI := Lib.hid hin
  have hsz : w.heap.size + 1 + 1 = w.heap.size + 2 := rfl
  by_cases h0 : F.1 = 0
  · have hcaught := caught_ok 37 #[.pointer (some ⟨w.heap.size, 0, none⟩), .pointer (some ⟨w.heap.size + 1 + 1, 0, none⟩)] ⟨F.2.toArray⟩ (fun w' => Two (W.alloc (.cells #[.int .i64 0] 23)) w' (w.heap.size + 1) none) W (hin _) hkeep (hwork.mono fun e w' ⟨h1, h2⟩ => ⟨by
      rcases h1 with ⟨_, h⟩ | ⟨h, _⟩
      · exact h
      · exact absurd h0 h, h2⟩)
    rw [hW]
    refine hcaught.mono ?_
    rintro e w' ⟨rfl, w1, h1, rfl⟩
    have h3 := HE.out w1 (.int .i64 0) h1
    rw [hWs] at h3
    have HB2 := Lib.hid h3
    have HF := Lib.hid h0
    clear h1 h0 h3 hcaught hAt hbW hwork hkeep hend hin
    go_wp2_with fail
    go_ret2
    refine ⟨?_, HB2.out⟩
    unfold decS
    rw [if_pos HF.out, HF.out]
    rfl
  · have hcaught := caught_no 37 #[.pointer (some ⟨w.heap.size, 0, none⟩), .pointer (some ⟨w.heap.size + 1 + 1, 0, none⟩)] F.1 (fun w' => Two (W.alloc (.cells #[.int .i64 0] 23)) w' (w.heap.size + 1) none) W (hin _) hkeep (hwork.mono fun e w' ⟨h1, h2⟩ => ⟨by
      rcases h1 with ⟨h, _⟩ | ⟨_, h⟩
      · exact absurd h h0
      · exact h, h2⟩)
    rw [hW]
    refine hcaught.mono ?_
    rintro e w' ⟨rfl, w1, h1, rfl⟩
    have h3 := HE.out w1 (.int .i64 F.1) h1
    rw [hWs] at h3
    have HB2 := Lib.hid h3
    have HF := Lib.hid h0
    clear h1 h0 h3 hcaught hAt hbW hwork hkeep hend hin
    go_wp2_with fail
    go_ret2
    refine ⟨?_, HB2.out⟩
    unfold decS
    rw [if_neg HF.out]
    rfl

/-- The answers of the three decoders. -/
def unhexF (s : ByteArray) (n : Int) : Int × List UInt8 := if n < 0 then (1, []) else hexD (min n 1048576).toNat [] none s.data.toList
def unfiveF (s : ByteArray) (n : Int) : Int × List UInt8 := if n < 0 then (1, []) else fiveD (min n 1048576).toNat [] [] s.data.toList
def unrunF (s : ByteArray) (n : Int) : Int × List UInt8 := if n < 0 then (1, []) else runD (min n 1048576).toNat [] s.data.toList
theorem dec_bad : decS (1, []) = ⟨#[]⟩ := rfl

set_option maxHeartbeats 1000000 in
theorem aunhex_any (s : ByteArray) (n : Int) (w : World) (hs : s.size ≤ 4000000000) :
    Calls Try.prog 8 #[.string s, .int .i64 n] w (DecodedIs (unhexF s n) w) := by
  have hc : Calls Try.prog 20 #[.string s, .int .i64 n, .func (.func 21) #[] #[]] w (DecodedIs (unhexF s n) w) := by
    by_cases hn : n < 0
    · have hF : unhexF s n = (1, []) := by unfold unhexF; rw [if_pos hn]
      rw [hF]
      exact decoded_no _ s n w hn
    · have hF : unhexF s n = hexD (min n 1048576).toNat [] none s.data.toList := by unfold unhexF; rw [if_neg hn]
      rw [hF]
      exact decoded_in 21 s n _ w hs (by omega) (fun _ _ => by kernel_rfl) fun N W hN hD => unhex_in N (N + 1) none s.data.toList _ W hN (by omega) _ rfl hD
  have HC := Lib.hid hc
  clear hc
  obtain ⟨F, hF⟩ : ∃ F, unhexF s n = F := ⟨_, rfl⟩
  rw [hF] at HC ⊢
  clear hF
  go_enter Try.func8, Try.ntmps8
  go_wp2_with fail
  refine HC.out.mono ?_
  rintro e w' ⟨rfl, hb⟩
  go_wp2_with fail
  go_ret2
  exact ⟨rfl, hb⟩
set_option maxHeartbeats 1000000 in
theorem aunfive_any (s : ByteArray) (n : Int) (w : World) (hs : s.size ≤ 4000000000) :
    Calls Try.prog 10 #[.string s, .int .i64 n] w (DecodedIs (unfiveF s n) w) := by
  have hc : Calls Try.prog 20 #[.string s, .int .i64 n, .func (.func 24) #[] #[]] w (DecodedIs (unfiveF s n) w) := by
    by_cases hn : n < 0
    · have hF : unfiveF s n = (1, []) := by unfold unfiveF; rw [if_pos hn]
      rw [hF]
      exact decoded_no _ s n w hn
    · have hF : unfiveF s n = fiveD (min n 1048576).toNat [] [] s.data.toList := by unfold unfiveF; rw [if_neg hn]
      rw [hF]
      exact decoded_in 24 s n _ w hs (by omega) (fun _ _ => by kernel_rfl) fun N W hN hD => unfive_in N (N + 1) none s.data.toList _ W hN (by omega) _ rfl hD
  have HC := Lib.hid hc
  clear hc
  obtain ⟨F, hF⟩ : ∃ F, unfiveF s n = F := ⟨_, rfl⟩
  rw [hF] at HC ⊢
  clear hF
  go_enter Try.func10, Try.ntmps10
  go_wp2_with fail
  refine HC.out.mono ?_
  rintro e w' ⟨rfl, hb⟩
  go_wp2_with fail
  go_ret2
  exact ⟨rfl, hb⟩
set_option maxHeartbeats 1000000 in
theorem aunrun_any (s : ByteArray) (n : Int) (w : World) (hs : s.size ≤ 4000000000) :
    Calls Try.prog 12 #[.string s, .int .i64 n] w (DecodedIs (unrunF s n) w) := by
  have hc : Calls Try.prog 20 #[.string s, .int .i64 n, .func (.func 28) #[] #[]] w (DecodedIs (unrunF s n) w) := by
    by_cases hn : n < 0
    · have hF : unrunF s n = (1, []) := by unfold unrunF; rw [if_pos hn]
      rw [hF]
      exact decoded_no _ s n w hn
    · have hF : unrunF s n = runD (min n 1048576).toNat [] s.data.toList := by unfold unrunF; rw [if_neg hn]
      rw [hF]
      exact decoded_in 28 s n _ w hs (by omega) (fun _ _ => by kernel_rfl) fun N W hN hD => unrun_in N (N + 1) none s.data.toList _ W hN (by omega) _ rfl hD
  have HC := Lib.hid hc
  clear hc
  obtain ⟨F, hF⟩ : ∃ F, unrunF s n = F := ⟨_, rfl⟩
  rw [hF] at HC ⊢
  clear hF
  go_enter Try.func12, Try.ntmps12
  go_wp2_with fail
  refine HC.out.mono ?_
  rintro e w' ⟨rfl, hb⟩
  go_wp2_with fail
  go_ret2
  exact ⟨rfl, hb⟩
end Go.Proofs.Ytgfohfgallojkaa
namespace Go.Proofs.Ytgfohfgallojkaa
open Go.RowKit Oct Asc Go.Shelf

theorem takeWhile_stop {p : UInt8 → Bool} : ∀ (l : List UInt8) (k : Nat), k ≤ l.length → (∀ j (hj : j < l.length), j < k → p l[j] = true) → (∀ h : k < l.length, p l[k] = false) → (l.takeWhile p).length = k
  | [], k, h, _, _ => by simp at h; simp [h]
  | c :: t, 0, _, _, h2 => by
    have := h2 (by simp)
    rw [List.takeWhile_cons]
    simp only [List.getElem_cons_zero] at this
    rw [if_neg (by rw [this]; decide)]
    rfl
  | c :: t, k + 1, h, h1, h2 => by
    have hc : p c = true := h1 0 (by simp) (by omega)
    rw [List.takeWhile_cons, if_pos hc, List.length_cons]
    rw [takeWhile_stop t k (by simpa using h) (fun j hj hk => by have := h1 (j + 1) (by simpa using hj) (by omega); simpa using this) (fun hk => by have := h2 (by simpa using hk); simpa using this)]
theorem takeWhile_ge {p : UInt8 → Bool} : ∀ (l : List UInt8) (k : Nat), k ≤ l.length → (∀ j (hj : j < l.length), j < k → p l[j] = true) → k ≤ (l.takeWhile p).length
  | _, 0, _, _ => Nat.zero_le _
  | [], k + 1, h, _ => by simp at h
  | c :: t, k + 1, h, h1 => by
    have hc : p c = true := h1 0 (by simp) (by omega)
    rw [List.takeWhile_cons, if_pos hc, List.length_cons]
    have := takeWhile_ge t k (by simpa using h) (fun j hj hk => by have := h1 (j + 1) (by simpa using hj) (by omega); simpa using this)
    omega
theorem eqN_at {l : List UInt8} {n : Nat} (h1 : 1 ≤ n) (hn : n ≤ min l.length 128) (h0 : 0 < l.length) (hall : ∀ j (hj : j < l.length), j < n → l[j] = l[0]) (hstop : n = min l.length 128 ∨ ∃ h : n < l.length, l[n] ≠ l[0]) : eqN l = n := by
  obtain ⟨c, t, rfl⟩ := List.exists_cons_of_ne_nil (List.length_pos_iff.1 h0)
  obtain ⟨k, rfl⟩ : ∃ k, n = k + 1 := ⟨n - 1, by omega⟩
  have hl : (c :: t).length = t.length + 1 := rfl
  have hp : ∀ j (hj : j < t.length), j < k → (t[j] == c) = true := fun j hj hk => by
    have := hall (j + 1) (by simpa using hj) (by omega)
    simpa using this
  show min 128 (1 + (t.takeWhile (· == c)).length) = k + 1
  rcases hstop with h | ⟨h, hne⟩
  · have := takeWhile_ge (p := (· == c)) t k (by omega) hp
    have h3 := (List.takeWhile_prefix (l := t) (· == c)).length_le
    omega
  · rw [takeWhile_stop (p := (· == c)) t k (by omega) hp (fun hk => by
      have : t[k] ≠ c := by simpa using hne
      simpa using this)]
    omega

theorem equal_stop {s : ByteArray} {n : Nat} (h1 : 1 ≤ n) (hs : 0 < s.size) (hn : n ≤ min s.size 128) (hall : ∀ j (hj : j < s.size), j < n → s[j] = s[0]) (hstop : n = min s.size 128 ∨ ∃ h : n < s.size, s[n] ≠ s[0]) : eqN s.data.toList = n := by
  have hl : s.data.toList.length = s.size := by simp
  refine eqN_at h1 (by rw [hl]; exact hn) (by rw [hl]; exact hs) (fun j hj hk => hall j (by rw [← hl]; exact hj) hk) ?_
  rcases hstop with h | ⟨h, h2⟩
  · exact .inl (by rw [hl]; exact h)
  · exact .inr ⟨by rw [hl]; exact h, h2⟩
set_option maxRecDepth 100000 in
set_option maxHeartbeats 4000000 in
theorem equal_any (s : ByteArray) (w : World) (hs : 0 < s.size) (hs2 : s.size ≤ 4000000000) :
    Calls Try.prog 33 #[.string s] w fun e w' => e = .returned (.int .i64 (eqN s.data.toList : Nat)) ∧ ∃ k, w' = w.drewN k := by
  obtain ⟨M, hM⟩ : ∃ M, min s.size 128 = M := ⟨_, rfl⟩
  have hMi : min (s.size : Int) 128 = (M : Int) := by omega
  have hM1 : 1 ≤ M := by omega
  have hMs : M ≤ s.size := by omega
  have hM2 : M ≤ 128 := by omega
  have HM := Lib.hid hM
  clear hM
  go_enter Try.func33, Try.ntmps33
  go_wp2_with fail
  go_loopw [3] (fun i wr => ∃ k d : Nat, 1 ≤ k ∧ k ≤ M ∧ i = .int .i64 (k : Int) ∧ Hid (∀ j (hj : j < s.size), j < k → s[j] = s[0]) ∧ wr = w.drewN d) (fun i _ => M - (intOf i).toNat)
  case atStart => exact ⟨1, 0, by omega, hM1, rfl, Lib.hid (fun j hj hk => by obtain rfl : j = 0 := (by omega); rfl), rfl⟩
  case round =>
    obtain ⟨k, d, h1, hk, rfl, HJ, rfl⟩ := hrel
    by_cases hlt : k < M
    · have i0 : (0 : Int) ≤ (k : Int) := by omega
      have i1 : (k : Int) < (M : Int) := by omega
      have i2 : (k : Int) < (s.size : Int) := by omega
      have i3 : k < s.size := by omega
      have i4 : (0 : Int) < (s.size : Int) := by omega
      by_cases he : s[k] = s[0]
      · have he' : ((s[k].toNat : Int) == (s[0].toNat : Int)) = true := by rw [he]; simp
        have HE := Lib.hid he
        clear he
        go_wp2_with fail
        go_quiet (fail)
        go_wp2_with fail
        go_roundw
        case rel => exact ⟨k + 1, d + nq, by omega, by omega, by go_num, Lib.hid (fun j hj hk => by
          by_cases e : j = k
          · subst e; exact HE.out
          · exact HJ.out j hj (by omega)), rfl⟩
        case measure => simp [intOf]; omega
      · have he' : ((s[k].toNat : Int) == (s[0].toNat : Int)) = false := by
          refine beq_eq_false_iff_ne.2 fun e => he ?_
          apply UInt8.toNat_inj.1
          omega
        have HE := Lib.hid (equal_stop h1 hs (by have := HM.out; omega) HJ.out (.inr ⟨i3, he⟩))
        clear he
        go_wp2_with fail
        go_quiet (fail)
        go_wp2_with fail
        go_ret
        exact ⟨by rw [HE.out]; rfl, d + nq, World.drewN_drewN w d nq⟩
    · have HE := Lib.hid (equal_stop h1 hs (by have := HM.out; omega) HJ.out (.inl (by have := HM.out; omega)))
      have i1 : ¬ (k : Int) < (M : Int) := by omega
      go_wp2_with fail
      go_quiet (fail)
      go_wp2_with fail
      go_ret
      exact ⟨by rw [HE.out]; rfl, d + nq, World.drewN_drewN w d nq⟩

theorem litT_at {k : Nat} : ∀ {l : List UInt8} {n : Nat}, n ≤ k → n ≤ l.length → (∀ j, j < n → eqN (l.drop j) < 3) → (n = min l.length k ∨ 3 ≤ eqN (l.drop n)) → litT k l = n := by
  induction k with
  | zero => intro l n h1 _ _ _; rw [show n = 0 by omega]; rfl
  | succ k ih =>
    intro l n h1 h2 hall hstop
    cases l with
    | nil => simp at h2; rw [h2]; rfl
    | cons c t =>
      cases n with
      | zero =>
        rcases hstop with h | h
        · simp only [List.length_cons] at h; omega
        · unfold litT; rw [if_pos (by rw [List.drop_zero] at h; exact h)]
      | succ n =>
        have h0 := hall 0 (by omega)
        unfold litT
        rw [if_neg (by rw [List.drop_zero] at h0; omega), ih (n := n) (by omega) (by simpa using h2) (fun j hj => hall (j + 1) (by omega)) (by
          rcases hstop with h | h
          · left; simp only [List.length_cons] at h; omega
          · right; exact h)]
        omega
theorem ext_drop (s : ByteArray) (k : Nat) : (s.extract k s.size).data.toList = s.data.toList.drop k := (ext_many rfl k).2

set_option maxRecDepth 100000 in
set_option maxHeartbeats 4000000 in
theorem literal_any (s : ByteArray) (w : World) (hs : 0 < s.size) (hs2 : s.size ≤ 4000000000) (h3 : eqN s.data.toList < 3) :
    Calls Try.prog 34 #[.string s] w fun e w' => e = .returned (.int .i64 (litT 128 s.data.toList : Nat)) ∧ ∃ k, w' = w.drewN k := by
  obtain ⟨M, hM⟩ : ∃ M, min s.size 128 = M := ⟨_, rfl⟩
  have hMi : min (s.size : Int) 128 = (M : Int) := by omega
  have hM1 : 1 ≤ M := by omega
  have hMs : M ≤ s.size := by omega
  have hM2 : M ≤ 128 := by omega
  have HM := Lib.hid hM
  have H3 := Lib.hid h3
  clear hM h3
  go_enter Try.func34, Try.ntmps34
  go_wp2_with fail
  go_loopw [3] (fun i wr => ∃ k d : Nat, 1 ≤ k ∧ k ≤ M ∧ i = .int .i64 (k : Int) ∧ Hid (∀ j, j < k → eqN (s.data.toList.drop j) < 3) ∧ wr = w.drewN d) (fun i _ => M - (intOf i).toNat)
  case atStart => exact ⟨1, 0, by omega, hM1, rfl, Lib.hid (fun j hj => by obtain rfl : j = 0 := (by omega); exact H3.out), rfl⟩
  case round =>
    obtain ⟨k, d, h1, hk, rfl, HJ, rfl⟩ := hrel
    by_cases hlt : k < M
    · have i0 : (0 : Int) ≤ (k : Int) := by omega
      have i1 : (k : Int) < (M : Int) := by omega
      have i2 : (k : Int) ≤ (s.size : Int) := by omega
      obtain ⟨X, hX⟩ : ∃ X, s.extract k s.size = X := ⟨_, rfl⟩
      have hXl : X.data.toList = s.data.toList.drop k := by rw [← hX]; exact ext_drop s k
      have hXs : X.size = s.size - k := by rw [← hX, ByteArray.size_extract]; omega
      obtain ⟨q, hq⟩ : ∃ q, eqN X.data.toList = q := ⟨_, rfl⟩
      have HC := Lib.hid (fun W : World => equal_any X W (by omega) (by omega))
      rw [hq] at HC
      have HQ := Lib.hid (show eqN (s.data.toList.drop k) = q by rw [← hXl]; exact hq)
      clear hXl hXs hq
      by_cases h3 : q < 3
      · have h3' : (q : Int) < 3 := by omega
        go_wp2_with fail
        refine (HC.out _).mono ?_
        rintro e w1 ⟨rfl, d2, rfl⟩
        go_wp2_with fail
        go_roundw
        case rel => exact ⟨k + 1, d + d2, by omega, by omega, by go_num, Lib.hid (fun j hj => by
          by_cases e : j = k
          · subst e; rw [HQ.out]; exact h3
          · exact HJ.out j (by omega)), rfl⟩
        case measure => simp [intOf]; omega
      · have h3' : ¬ (q : Int) < 3 := by omega
        have HE := Lib.hid (litT_at (k := 128) (l := s.data.toList) (n := k) (by omega) (by have e : s.data.toList.length = s.size := (by simp); omega) HJ.out (.inr (by rw [HQ.out]; omega)))
        go_wp2_with fail
        refine (HC.out _).mono ?_
        rintro e w1 ⟨rfl, d2, rfl⟩
        go_wp2_with fail
        go_ret
        exact ⟨by rw [HE.out]; rfl, d + d2, rfl⟩
    · have HE := Lib.hid (litT_at (k := 128) (l := s.data.toList) (n := k) (by omega) (by have e : s.data.toList.length = s.size := (by simp); omega) HJ.out (.inl (by have e : s.data.toList.length = s.size := (by simp); have := HM.out; omega)))
      have i1 : ¬ (k : Int) < (M : Int) := by omega
      go_wp2_with fail
      go_ret
      exact ⟨by rw [HE.out]; rfl, d, rfl⟩
end Go.Proofs.Ytgfohfgallojkaa
