/-
  Lemmas and walks, joined: AscC, AscD, AscE, AscF, AscG.
-/
import Derived.Test.YtgfohfgallojkaaM03
import Derived.Test.YtgfohfgallojkaaM05
import Derived.Test.YtgfohfgallojkaaM06
import Derived.Deep.AppendLies
import Derived.Deep.QuietTactic
import Derived.RegionDies
namespace Go.Proofs.Ytgfohfgallojkaa
open Go.RowKit Oct Asc

theorem cellsOf_len (l : List UInt8) : (cellsOf l).length = l.length := by unfold cellsOf; rw [List.length_map]
theorem cellsOf_one (l : List UInt8) : ∀ u ∈ cellsOf l, u.oneCell' = true := by
  intro u hu
  unfold cellsOf at hu
  obtain ⟨b, _, rfl⟩ := List.mem_map.1 hu
  rfl
/-- The decoder: its struct is block g, its bytes lie in row r, both from B on. -/
def Dec (B : Nat) (w : World) (g : Nat) (r : Option Nat) (rest o : List UInt8) (m : Nat) : Prop :=
  ∃ (R : ByteArray) (v : Value), R.data.toList = rest ∧ R.size ≤ 4000000000 ∧ Blk w g 47 #[.string R, v, .int .i64 (m : Int)] ∧ w.ownsRow B 5 1 v o.length (cellsOf o) ∧ v.ownBlock = r ∧ r ≠ some g ∧ B ≤ g
/-- What a call on the decoder leaves. -/
def Put (B : Nat) (w : World) (g : Nat) (r : Option Nat) (rest o : List UInt8) (m : Nat) (w' : World) : Prop :=
  ∃ r', (r' = r ∨ ∃ k, r' = some k ∧ w.heap.size ≤ k) ∧ Dec B w' g r' rest o m ∧ Two w w' g r
theorem Put.same {B : Nat} {w : World} {g : Nat} {r : Option Nat} {rest o : List UInt8} {m : Nat} (h : Dec B w g r rest o m) : Put B w g r rest o m w := ⟨r, .inl rfl, h, Two.refl _ _ _⟩
theorem Dec.drewN {B : Nat} {w : World} {g : Nat} {r : Option Nat} {rest o : List UInt8} {m : Nat} (h : Dec B w g r rest o m) (n : Nat) : Dec B (w.drewN n) g r rest o m := h
theorem Put.drewN {B : Nat} {w w1 : World} {g : Nat} {r : Option Nat} {rest o : List UInt8} {m : Nat} (h : Put B w g r rest o m w1) (n : Nat) : Put B w g r rest o m (w1.drewN n) := by
  obtain ⟨r', hr, hd, ht⟩ := h
  exact ⟨r', hr, hd.drewN n, ht.drewN n⟩
theorem Put.then {B : Nat} {w w1 w2 : World} {g : Nat} {r r1 : Option Nat} {rest o : List UInt8} {m : Nat} (hr : r1 = r ∨ ∃ k, r1 = some k ∧ w.heap.size ≤ k) (ht : Two w w1 g r) (h : Put B w1 g r1 rest o m w2) : Put B w g r rest o m w2 := by
  obtain ⟨r', hr', hw, ht'⟩ := h
  refine ⟨r', ?_, hw, ht.trans ht' hr⟩
  rcases hr' with rfl | ⟨k, rfl, hk⟩
  · exact hr
  · exact .inr ⟨k, rfl, Nat.le_trans ht.size hk⟩
/-- A block that is made beside the decoder changes nothing of it. -/
theorem Dec.alloc {B : Nat} {w : World} {g : Nat} {r : Option Nat} {rest o : List UInt8} {m : Nat} (h : Dec B w g r rest o m) (x : Obj) : Dec B (w.alloc x) g r rest o m := by
  obtain ⟨R, v, h1, h2, h3, h4, h5, h6, h7⟩ := h
  exact ⟨R, v, h1, h2, h3.alloc _, h4.alloc _, h5, h6, h7⟩
/-- What a call that touches the struct alone leaves of the row. -/
theorem Dec.grown {B : Nat} {w w' : World} {g : Nat} {r : Option Nat} {rest' o : List UInt8} {m : Nat} {R' : ByteArray} {v : Value} (h4 : w.ownsRow B 5 1 v o.length (cellsOf o)) (h5 : v.ownBlock = r) (h6 : r ≠ some g) (h7 : B ≤ g) (hg : w.grownBy w' (some g))
    (hR : R'.data.toList = rest') (hs : R'.size ≤ 4000000000) (hX : Blk w' g 47 #[.string R', v, .int .i64 (m : Int)]) : Dec B w' g r rest' o m :=
  ⟨R', v, hR, hs, hX, h4.kept hg (by
    rcases h4.2 with ⟨rfl, _⟩ | ⟨k, cap, cur, rfl, _⟩
    · exact .inl rfl
    · refine .inr ?_
      rw [h5]
      exact h6), h5, h6, h7⟩
theorem two_of_grown {w w' : World} {g : Nat} {r : Option Nat} (hg : w.grownBy w' (some g)) : Two w w' g r := ⟨hg.os, hg.tape, hg.output, hg.size, fun k hk h1 _ => hg.block k hk (fun e => h1 (by injection e))⟩

set_option maxRecDepth 100000 in
set_option maxHeartbeats 4000000 in
theorem put_no (B g : Nat) (r : Option Nat) (rest o : List UInt8) (m : Nat) (ad : Option Addr) (n c : Nat) (w : World) (hm : m ≤ 1048576) (hol : o.length ≤ m) (hD : Dec B w g r rest o m) (hn : m < o.length + n) :
    Calls Try.prog 40 #[.pointer (some ⟨g, 0, none⟩), .slice ad n c] w fun e w' => e = gUp 5 ∧ ∃ q, w' = w.drewN q := by
  obtain ⟨R, v, h1, h2, h3, h4, h5, h6, h7⟩ := hD
  obtain ⟨A, C, rfl⟩ := own_form h4
  have c1 := h3.cell 1
  have c2 := h3.cell 2
  simp only [List.getElem?_toArray, List.getElem?_cons_zero, List.getElem?_cons_succ] at c1 c2
  obtain ⟨q, hq⟩ : ∃ q, o.length = q := ⟨_, rfl⟩
  rw [hq] at c1 hol hn
  have i1 : (m : Int) - (q : Int) < (n : Int) := by omega
  clear h1 h2 h3 h4 h5 h6 h7 hn hq
  go_enter Try.func40, Try.ntmps40
  go_wp2_with fail
  go_quiet (fail)
  go_wp2_with fail
  refine (up_any _ _).mono ?_
  rintro e w' ⟨rfl, rfl⟩
  exact ⟨rfl, rfl, _, rfl⟩

set_option maxRecDepth 100000 in
set_option maxHeartbeats 4000000 in
theorem put_ok (B g : Nat) (r : Option Nat) (rest o x : List UInt8) (m : Nat) (ad : Addr) (n c : Nat) (w : World) (hB : B ≤ w.heap.size) (hm : m ≤ 1048576) (hol : o.length + n ≤ m) (hD : Dec B w g r rest o m) (hx : x.length = n) (hn : 0 < n)
    (hnews : ∀ (W : World), (∀ k, k < w.heap.size → W.heap[k]? = w.heap[k]?) → ∀ (j : Nat) u, (cellsOf x)[j]? = some u → W.cell? (ad.add j) = some u) :
    Calls Try.prog 40 #[.pointer (some ⟨g, 0, none⟩), .slice (some ad) n c] w fun e w' => e = .returned (.tuple #[]) ∧ Put B w g r rest (o ++ x) m w' := by
  obtain ⟨i5, hi, hz0, hz1, hz2⟩ := info_parts info5
  obtain ⟨R, v, h1, h2, h3, h4, h5, h6, h7⟩ := hD
  have hgl := h3.lt
  obtain ⟨A, C, hv⟩ := own_form h4
  have c1 := h3.cell 1
  have c2 := h3.cell 2
  have f1 := h3.frozen 1
  simp only [List.getElem?_toArray, List.getElem?_cons_zero, List.getElem?_cons_succ] at c1 c2
  obtain ⟨q, hq⟩ : ∃ q, o.length = q := ⟨_, rfl⟩
  rw [hq] at h4 hol hv
  have i1 : ¬ (m : Int) - (q : Int) < (n : Int) := by omega
  have H3 := Lib.hid h3
  have H4 := Lib.hid h4
  have HQ := Lib.hid hq
  have HX := Lib.hid hx
  have HN := Lib.hid hnews
  have H12 := Lib.hid (And.intro h1 (And.intro h2 (And.intro h5 (And.intro h6 h7))))
  clear h1 h2 h3 h4 h5 h6 h7 hq hx hnews
  subst hv
  go_enter Try.func40, Try.ntmps40
  go_wp2_with fail
  go_quiet (fail)
  go_wp2_with (at_builtin; refine wpList_append_lies _ rfl _ _ _ rfl B 5 i5 (.int .u8 0) 1 1 Try.underlying29 hi hz0 hz1 hz2 rfl (by omega) (.slice A q C) q (cellsOf o) rfl (by exact H4.out) ad n c (cellsOf x) rfl (by rw [cellsOf_len, HX.out, Nat.mul_one]) (HN.out _ (fun _ _ => rfl)) (cellsOf_one x) hn (by unfold maxLen; omega) (by omega) hB w.heap.size rfl ?_; intro k cap w1 hown1 hgrow hat hlt1; obtain ⟨hR, hRs, hvr, hrg, hBg⟩ := H12.out; have h1 := (Blk.drewN H3.out nq).grown hgrow (fun e => hrg (hvr.symm.trans e.symm)); have f0 : w1.frozen? ⟨g, 1, none⟩ = false := h1.frozen 1; have c10 : w1.cell? ⟨g, 1, none⟩ = some (.slice A q C) := (h1.cell 1).trans rfl)
  go_end0
  have hkg : k ≠ g := by
    rcases hat with e | e
    · intro e2
      rw [e2] at e
      exact hrg (hvr.symm.trans e)
    · omega
  have hkw : some k = r ∨ w.heap.size ≤ k := by
    rcases hat with e | e
    · exact .inl (e.symm.trans hvr)
    · exact .inr (by omega)
  have hlen : (o ++ x).length = q + n := by rw [List.length_append, HQ.out, HX.out]
  refine ⟨rfl, some k, ?_, ⟨R, .slice (some ⟨k, 0, none⟩) (q + n) cap, hR, hRs, h1.set_ 1 _, ?_, rfl, fun e => hkg (by injection e), hBg⟩, ?_⟩
  · rcases hkw with e | e
    · exact .inl e
    · exact .inr ⟨k, rfl, e⟩
  · rw [hlen, cellsOf_append]
    exact ownsRow_setCell_other hown1 (fun e => hkg (by simpa [Value.ownBlock] using e)) _
  · exact (((Two.refl w g r).drewN nq).grown hgrow (.inl hvr)).set_ 1 _
end Go.Proofs.Ytgfohfgallojkaa
namespace Go.Proofs.Ytgfohfgallojkaa
open Go.RowKit Oct Asc

theorem news_blk {w : World} {k : Nat} {cs : Array Value} {t : TypeId} {x : List UInt8} (h : Blk w k t cs) (hx : cs.toList = cellsOf x) :
    ∀ W : World, (∀ j, j < w.heap.size → W.heap[j]? = w.heap[j]?) → ∀ (j : Nat) u, (cellsOf x)[j]? = some u → W.cell? ((⟨k, 0, none⟩ : Addr).add j) = some u := by
  intro W hW j u hu
  rw [← hx] at hu
  exact World.news_of_block ((hW k h.lt).trans h) j u hu
theorem len_size {R : ByteArray} {l : List UInt8} (h : R.data.toList = l) : R.size = l.length := by rw [← h]; simp

/-- What a call that reads leaves: the row as it was. -/
def Read1 (B : Nat) (w : World) (g : Nat) (r : Option Nat) (rest o : List UInt8) (m : Nat) (w' : World) : Prop := Dec B w' g r rest o m ∧ Two w w' g r
theorem drop_len (l : List UInt8) {c : UInt8} {t : List UInt8} (h : l.dropWhile whiteS = c :: t) : t.length < l.length := by
  have := (List.dropWhile_suffix (l := l) whiteS).length_le
  rw [h] at this
  simp only [List.length_cons] at this
  omega
theorem vis_ok (B g : Nat) (r : Option Nat) (rest o : List UInt8) (m : Nat) (w : World) (c : UInt8) (t : List UInt8) (hd : rest.dropWhile whiteS = c :: t) (h : Dec B w g r rest o m) :
    Calls Try.prog 38 #[.pointer (some ⟨g, 0, none⟩)] w fun e w' => e = .returned (.int .u8 (c.toNat : Int)) ∧ Read1 B w g r t o m w' := by
  obtain ⟨R, v, rfl, h2, h3, h4, h5, h6, h7⟩ := h
  refine (visible_ok g R c t v m w h2 hd h3).mono ?_
  rintro e w' ⟨he, ⟨R', hR', hX⟩, hg⟩
  have hl := drop_len _ hd
  have e1 := len_size hR'
  have e2 : R.data.toList.length = R.size := by simp
  exact ⟨he, Dec.grown h4 h5 h6 h7 hg hR' (by omega) hX, two_of_grown hg⟩
theorem vis_no (B g : Nat) (r : Option Nat) (rest o : List UInt8) (m : Nat) (w : World) (hd : rest.dropWhile whiteS = []) (h : Dec B w g r rest o m) :
    Calls Try.prog 38 #[.pointer (some ⟨g, 0, none⟩)] w fun e w' => e = gUp 4 ∧ Two w w' g r := by
  obtain ⟨R, v, rfl, h2, h3, h4, h5, h6, h7⟩ := h
  refine (visible_no g R v m w h2 hd h3).mono ?_
  rintro e w' ⟨he, ⟨R', hX⟩, hg⟩
  exact ⟨he, two_of_grown hg⟩
/-- How a decoder ends whose answer is R: with its bytes in the row, or giving up. -/
def DecEnd (B : Nat) (w : World) (g : Nat) (r : Option Nat) (m : Nat) (R : Int × List UInt8) (e : Ending) (w' : World) : Prop :=
  (R.1 = 0 ∧ e = .returned (.tuple #[]) ∧ ∃ rest, Put B w g r rest R.2 m w') ∨ (R.1 ≠ 0 ∧ e = gUp R.1 ∧ Two w w' g r)
theorem hexD_drop (m : Nat) (o : List UInt8) (h : Option UInt8) : ∀ l : List UInt8, hexD m o h l = hexD m o h (l.dropWhile whiteS)
  | [] => rfl
  | c :: t => by
    rw [List.dropWhile_cons]
    by_cases hw : whiteS c = true
    · rw [if_pos hw, hexD_white _ hw, hexD_drop m o h t]
    · rw [if_neg hw]
theorem drop_white {l : List UInt8} {c : UInt8} {t : List UInt8} (h : l.dropWhile whiteS = c :: t) : whiteS c = false := by
  have := List.head?_dropWhile_not (p := whiteS) l
  rw [h] at this
  simpa using this
def restL (w : World) (g : Nat) : Nat := restAt w g
theorem dec_rest {B : Nat} {w : World} {g : Nat} {r : Option Nat} {rest o : List UInt8} {m : Nat} (h : Dec B w g r rest o m) : restAt w g = rest.length := by
  obtain ⟨R, v, rfl, h2, h3, _⟩ := h
  rw [restAt_of h3]
  simp
theorem pair_val (a b : UInt8) (h1 : 0 ≤ digitS a) (h2 : 0 ≤ digitS b) : (((pairByte a b).toNat : Nat) : Int) = 16 * digitS a + digitS b := pairByte_int a b h1 h2

theorem asc_ne {c : UInt8} {k : Nat} (h : c ≠ UInt8.ofNat k) (hk : k < 256 := by decide) : ((c.toNat : Int) == (k : Int)) = false := by
  refine beq_eq_false_iff_ne.2 fun e => h ?_
  have e2 : c.toNat = k := by omega
  rw [← e2]
  simp
theorem read_put {B : Nat} {w w' : World} {g : Nat} {r : Option Nat} {rest o : List UInt8} {m : Nat} (h : Read1 B w g r rest o m w') : Put B w g r rest o m w' := ⟨r, .inl rfl, h.1, h.2⟩
theorem end_ok {B : Nat} {w wr w1 : World} {g : Nat} {r r1 : Option Nat} {rest o : List UInt8} {m : Nat} {F : Int × List UInt8} (hr : r1 = r ∨ ∃ k, r1 = some k ∧ w.heap.size ≤ k) (hT : Two w wr g r) (h : Put B wr g r1 rest o m w1) (hF : F = (0, o)) : DecEnd B w g r m F (.returned (.tuple #[])) w1 := by
  subst hF
  exact .inl ⟨rfl, rfl, rest, Put.then hr hT h⟩
theorem end_no {B : Nat} {w wr w1 : World} {g : Nat} {r r1 : Option Nat} {m : Nat} {x : Int} {F : Int × List UInt8} (hr : r1 = r ∨ ∃ k, r1 = some k ∧ w.heap.size ≤ k) (hT : Two w wr g r) (h : Two wr w1 g r1) (hF : F = (x, [])) (hx : x ≠ 0) : DecEnd B w g r m F (gUp x) w1 := by
  subst hF
  exact .inr ⟨hx, rfl, hT.trans h hr⟩
theorem put_one_no {B g : Nat} {r : Option Nat} {rest o : List UInt8} {m : Nat} {b : Int} {w : World} (hm : m ≤ 1048576) (hol : o.length ≤ m) (h : Dec B w g r rest o m) (hn : m ≤ o.length) :
    Calls Try.prog 40 #[.pointer (some ⟨g, 0, none⟩), .slice (some ⟨w.heap.size, 0, none⟩) 1 1] (w.alloc (.cells #[.int .u8 b] 5)) fun e w' => e = gUp 5 ∧ Two w w' g r := by
  refine (put_no B g r rest o m _ 1 1 _ hm hol (h.alloc _) (by omega)).mono ?_
  rintro e w' ⟨rfl, q, rfl⟩
  exact ⟨rfl, ((Two.refl w g r).alloc _).drewN q⟩
theorem put_one_ok {B g : Nat} {r : Option Nat} {rest o : List UInt8} {m : Nat} {y : UInt8} {b : Int} {w : World} (hB : B ≤ w.heap.size) (hm : m ≤ 1048576) (h : Dec B w g r rest o m) (hb : (y.toNat : Int) = b) (hn : ¬ m ≤ o.length) :
    Calls Try.prog 40 #[.pointer (some ⟨g, 0, none⟩), .slice (some ⟨w.heap.size, 0, none⟩) 1 1] (w.alloc (.cells #[.int .u8 b] 5)) fun e w' => e = .returned (.tuple #[]) ∧ Put B w g r rest (o ++ [y]) m w' := by
  refine (put_ok B g r rest o [y] m ⟨w.heap.size, 0, none⟩ 1 1 _ (by simp; omega) hm (by omega) (h.alloc _) rfl (by decide) ?_).mono ?_
  · exact news_blk (Blk.new w _ _) (by subst hb; rfl)
  · rintro e w' ⟨rfl, hp⟩
    exact ⟨rfl, Put.then (.inl rfl) ((Two.refl w g r).alloc _) hp⟩
/-- The loop of unhex, so far. -/
def HexTo (B : Nat) (w : World) (g : Nat) (r : Option Nat) (m : Nat) (F : Int × List UInt8) (wr : World) : Prop :=
  ∃ (r' : Option Nat) (rest o : List UInt8), (r' = r ∨ ∃ k, r' = some k ∧ w.heap.size ≤ k) ∧ Dec B wr g r' rest o m ∧ Two w wr g r ∧ o.length ≤ m ∧ F = hexD m o none rest

set_option maxRecDepth 100000 in
set_option maxHeartbeats 4000000 in
theorem unhex_in (B g : Nat) (r : Option Nat) (rest : List UInt8) (m : Nat) (w : World) (hB : B ≤ w.heap.size) (hm : m ≤ 1048576) (F : Int × List UInt8) (hF : F = hexD m [] none rest) (h : Dec B w g r rest [] m) :
    Calls Try.prog 21 #[.pointer (some ⟨g, 0, none⟩)] w (DecEnd B w g r m F) := by
  have HF := Lib.hid hF
  have H := Lib.hid h
  clear hF h
  go_enter Try.func21, Try.ntmps21
  go_wp2_with fail
  go_loopw [] (fun wr => HexTo B w g r m F wr) (fun wr => restAt wr g)
  case atStart => exact ⟨r, rest, [], .inl rfl, H.out, Two.refl _ _ _, by simp, HF.out⟩
  case round =>
    clear H HF
    obtain ⟨r1, rest1, o, hr, hD, hT, ho, hF⟩ := hrel
    have hms := dec_rest hD
    have HM := Lib.hid hms
    have HR := Lib.hid hr
    have HT := Lib.hid hT
    have HD := Lib.hid hD
    have HO := Lib.hid ho
    rw [hexD_drop] at hF
    clear hr hT hD hms ho
    rcases hd : rest1.dropWhile whiteS with _ | ⟨c, t⟩
    · rw [hd, hexD_nil] at hF
      have HDr := Lib.hid hd
      have HF := Lib.hid hF
      clear hd hF
      go_wp2_with fail
      refine (vis_no B g r1 rest1 o m _ HDr.out HD.out).mono ?_
      rintro e w1 ⟨rfl, ht⟩
      refine ⟨rfl, ?_⟩
      rw [HF.out]
      exact .inr ⟨by decide, rfl, HT.out.trans ht HR.out⟩
    · rw [hd] at hF
      have hw := drop_white hd
      have HDr := Lib.hid hd
      have hlen := drop_len _ hd
      have HLn := Lib.hid hlen
      by_cases h62 : c = 62
      · subst h62
        rw [hexD_end] at hF
        have HF := Lib.hid hF
        clear hd hF hw hlen
        go_wp2_with fail
        refine (vis_ok B g r1 rest1 o m _ 62 t HDr.out HD.out).mono ?_
        rintro e w1 ⟨rfl, hd1, ht⟩
        have HD1 := Lib.hid hd1
        have HT1 := Lib.hid ht
        clear hd1 ht
        go_wp2_with fail
        go_end0
        exact end_ok HR.out HT.out (read_put ⟨HD1.out, HT1.out⟩) HF.out
      · have h62' : ((c.toNat : Int) == 62) = false := asc_ne h62
        by_cases hdg : digitS c < 0
        · rw [hexD_bad _ hw h62 hdg] at hF
          have HF := Lib.hid hF
          have HG := Lib.hid hdg
          clear hd hF hw hlen hdg h62
          go_wp2_with fail
          refine (vis_ok B g r1 rest1 o m _ c t HDr.out HD.out).mono ?_
          rintro e w1 ⟨rfl, hd1, ht⟩
          have HT1 := Lib.hid ht
          clear hd1 ht
          go_wp2_with fail
          refine (hexDigit_no c _ HG.out).mono ?_
          rintro e w2 ⟨rfl, rfl⟩
          refine ⟨rfl, ?_⟩
          exact end_no HR.out HT.out HT1.out HF.out (by decide)
        · have hdg : 0 ≤ digitS c := by omega
          have hdl := digit_le c
          have HG := Lib.hid hdg
          have HG2 := Lib.hid hdl
          rw [hexD_one _ hw h62 hdg, hexD_drop] at hF
          obtain ⟨D, hD⟩ : ∃ D, digitS c = D := ⟨_, rfl⟩
          rcases hd2 : t.dropWhile whiteS with _ | ⟨d, u⟩
          · rw [hd2, hexD_nil] at hF
            have HF := Lib.hid hF
            have HDr2 := Lib.hid hd2
            clear hd hF hw hlen hdg h62 hd2 hdl hD
            go_wp2_with fail
            refine (vis_ok B g r1 rest1 o m _ c t HDr.out HD.out).mono ?_
            rintro e w1 ⟨rfl, hd1, ht⟩
            have HD1 := Lib.hid hd1
            have HT1 := Lib.hid ht
            clear hd1 ht
            go_wp2_with fail
            refine (hexDigit_ok c _ HG.out).mono ?_
            rintro e w2 ⟨rfl, rfl⟩
            go_wp2_with fail
            refine (vis_no B g r1 t o m _ HDr2.out HD1.out).mono ?_
            rintro e w3 ⟨rfl, ht⟩
            refine ⟨rfl, ?_⟩
            exact end_no HR.out HT.out (HT1.out.trans ht (.inl rfl)) HF.out (by decide)
          · rw [hd2] at hF
            have hw2 := drop_white hd2
            have HDr2 := Lib.hid hd2
            have hlen2 := drop_len _ hd2
            have HLn2 := Lib.hid hlen2
            by_cases hd62 : d = 62
            · subst hd62
              rw [hexD_half] at hF
              have hv : (((pairByte c 48).toNat : Nat) : Int) = 16 * D := by rw [pair_val c 48 hdg (by decide), hD, show digitS 48 = 0 from rfl]; omega
              have hb : 16 * D ≤ 255 := by have := (pairByte c 48).toNat_lt; omega
              have hb0 : 0 ≤ D := by omega
              have HV := Lib.hid hv
              have HF := Lib.hid hF
              clear hd hF hw hlen hdg h62 hd2 hdl hw2 hlen2 hv
              rw [hD] at HG2
              go_wp2_with fail
              refine (vis_ok B g r1 rest1 o m _ c t HDr.out HD.out).mono ?_
              rintro e w1 ⟨rfl, hd1, ht⟩
              have HD1 := Lib.hid hd1
              have HT1 := Lib.hid ht
              clear hd1 ht
              go_wp2_with fail
              refine (hexDigit_ok c _ HG.out).mono ?_
              rintro e w2 ⟨rfl, rfl⟩
              rw [hD]
              go_wp2_with fail
              refine (vis_ok B g r1 t o m _ 62 u HDr2.out HD1.out).mono ?_
              rintro e w3 ⟨rfl, hd1, ht⟩
              have HD2 := Lib.hid hd1
              have HT2 := Lib.hid (HT1.out.trans ht (.inl rfl))
              clear hd1 ht
              by_cases hfull : m ≤ o.length
              · rw [if_pos hfull] at HF
                go_wp2_with fail
                refine (put_one_no hm HO.out HD2.out hfull).mono ?_
                rintro e w4 ⟨rfl, ht⟩
                refine ⟨rfl, ?_⟩
                exact end_no HR.out HT.out (HT2.out.trans ht (.inl rfl)) HF.out (by decide)
              · rw [if_neg hfull] at HF
                go_wp2_with fail
                refine (put_one_ok (Nat.le_trans hB (Nat.le_trans HT.out.size HT2.out.size)) hm HD2.out HV.out hfull).mono ?_
                rintro e w4 ⟨rfl, hp⟩
                have HP := Lib.hid (Put.then (.inl rfl) HT2.out hp)
                clear hp
                go_wp2_with fail
                go_end0
                exact end_ok HR.out HT.out HP.out HF.out
            · have hd62' : ((d.toNat : Int) == 62) = false := asc_ne hd62
              by_cases hdg2 : digitS d < 0
              · rw [hexD_bad _ hw2 hd62 hdg2] at hF
                have HF := Lib.hid hF
                have HG3 := Lib.hid hdg2
                clear hd hF hw hlen hdg h62 hd2 hdl hD hw2 hlen2 hdg2 hd62
                go_wp2_with fail
                refine (vis_ok B g r1 rest1 o m _ c t HDr.out HD.out).mono ?_
                rintro e w1 ⟨rfl, hd1, ht⟩
                have HD1 := Lib.hid hd1
                have HT1 := Lib.hid ht
                clear hd1 ht
                go_wp2_with fail
                refine (hexDigit_ok c _ HG.out).mono ?_
                rintro e w2 ⟨rfl, rfl⟩
                go_wp2_with fail
                refine (vis_ok B g r1 t o m _ d u HDr2.out HD1.out).mono ?_
                rintro e w3 ⟨rfl, hd1, ht⟩
                have HT2 := Lib.hid (HT1.out.trans ht (.inl rfl))
                clear hd1 ht
                go_wp2_with fail
                refine (hexDigit_no d _ HG3.out).mono ?_
                rintro e w4 ⟨rfl, rfl⟩
                refine ⟨rfl, ?_⟩
                exact end_no HR.out HT.out HT2.out HF.out (by decide)
              · have hdg2 : 0 ≤ digitS d := by omega
                have hdl2 := digit_le d
                have HG3 := Lib.hid hdg2
                rw [hexD_two _ hw2 hd62 hdg2] at hF
                obtain ⟨E, hE⟩ : ∃ E, digitS d = E := ⟨_, rfl⟩
                have hv : (((pairByte c d).toNat : Nat) : Int) = 16 * D + E := by rw [pair_val c d hdg hdg2, hD, hE]
                have hb : 16 * D + E ≤ 255 := by have := (pairByte c d).toNat_lt; omega
                have hb0 : 0 ≤ D := by omega
                have hb1 : 0 ≤ E := by omega
                have HV := Lib.hid hv
                have HF := Lib.hid hF
                clear hd hF hw hlen hdg h62 hd2 hdl hw2 hlen2 hv hdg2 hd62 hdl2
                rw [hD] at HG2
                go_wp2_with fail
                refine (vis_ok B g r1 rest1 o m _ c t HDr.out HD.out).mono ?_
                rintro e w1 ⟨rfl, hd1, ht⟩
                have HD1 := Lib.hid hd1
                have HT1 := Lib.hid ht
                clear hd1 ht
                go_wp2_with fail
                refine (hexDigit_ok c _ HG.out).mono ?_
                rintro e w2 ⟨rfl, rfl⟩
                rw [hD]
                go_wp2_with fail
                refine (vis_ok B g r1 t o m _ d u HDr2.out HD1.out).mono ?_
                rintro e w3 ⟨rfl, hd1, ht⟩
                have HD2 := Lib.hid hd1
                have HT2 := Lib.hid (HT1.out.trans ht (.inl rfl))
                clear hd1 ht
                go_wp2_with fail
                refine (hexDigit_ok d _ HG3.out).mono ?_
                rintro e w4 ⟨rfl, rfl⟩
                rw [hE]
                by_cases hfull : m ≤ o.length
                · rw [if_pos hfull] at HF
                  go_wp2_with fail
                  refine (put_one_no hm HO.out HD2.out hfull).mono ?_
                  rintro e w5 ⟨rfl, ht⟩
                  refine ⟨rfl, ?_⟩
                  exact end_no HR.out HT.out (HT2.out.trans ht (.inl rfl)) HF.out (by decide)
                · rw [if_neg hfull] at HF
                  go_wp2_with fail
                  refine (put_one_ok (Nat.le_trans hB (Nat.le_trans HT.out.size HT2.out.size)) hm HD2.out HV.out hfull).mono ?_
                  rintro e w5 ⟨rfl, hp⟩
                  obtain ⟨r2, hr2, hd2, ht2⟩ := Put.then HR.out HT.out (Put.then (.inl rfl) HT2.out hp)
                  have HD3 := Lib.hid hd2
                  have HT3 := Lib.hid ht2
                  have HR3 := Lib.hid hr2
                  clear hp hd2 ht2 hr2
                  go_wp2_with fail
                  go_roundw
                  case rel => exact ⟨r2, u, _, HR3.out, HD3.out, HT3.out, by rw [List.length_append]; simp; omega, HF.out⟩
                  case measure => rw [HM.out, dec_rest HD3.out]; have h1 := HLn.out; have h2 := HLn2.out; omega
end Go.Proofs.Ytgfohfgallojkaa
namespace Go.Proofs.Ytgfohfgallojkaa
open Go.RowKit Oct Asc

def v5 (l : List UInt8) : Nat := l.foldl (fun (n : Nat) (d : UInt8) => 85 * n + d.toNat) 0
theorem v5_more (l : List UInt8) (k : Nat) (h : k < l.length) : v5 (l.take (k + 1)) = 85 * v5 (l.take k) + l[k].toNat := by
  unfold v5
  rw [take_more h, List.foldl_append]
  rfl
theorem v5_lt (l : List UInt8) : v5 l < 256 * 85 ^ l.length := by
  have key : ∀ (l : List UInt8) (n : Nat), l.foldl (fun (n : Nat) (d : UInt8) => 85 * n + d.toNat) n < (n + 256) * 85 ^ l.length := by
    intro l
    induction l with
    | nil => intro n; simp
    | cons d t ih =>
      intro n
      have h := ih (85 * n + d.toNat)
      have hd := d.toNat_lt
      rw [List.foldl_cons, List.length_cons, Nat.pow_succ]
      refine Nat.lt_of_lt_of_le h ?_
      rw [Nat.mul_comm (85 ^ t.length) 85, ← Nat.mul_assoc]
      exact Nat.mul_le_mul_right _ (by omega)
  have := key l 0
  unfold v5
  omega
def arr5 (l : List UInt8) : Value := .agg (cellsOf l).toArray

theorem arr_bytes4 {n : Nat} (h : n ≤ 4294967295) : arr5 (bytes4 n) = .agg #[.int .u8 ((n : Int) / 16777216), .int .u8 ((n : Int) / 65536 % 256), .int .u8 ((n : Int) / 256 % 256), .int .u8 ((n : Int) % 256)] := by
  have e : ∀ x : Nat, (((UInt8.ofNat x).toNat : Nat) : Int) = (x : Int) % 256 := fun x => by rw [UInt8.toNat_ofNat']; omega
  unfold arr5 bytes4 cellsOf
  simp only [List.map_cons, List.map_nil, e]
  rw [show ((n / 16777216 : Nat) : Int) % 256 = (n : Int) / 16777216 by omega, show ((n / 65536 : Nat) : Int) % 256 = (n : Int) / 65536 % 256 by omega, show ((n / 256 : Nat) : Int) % 256 = (n : Int) / 256 % 256 by omega]
theorem set_low {B k : Nat} {w w' : World} (h : Below B w w') (hk : B ≤ k) (i : Nat) (u : Value) : Below B w (w'.setCell ⟨k, i, none⟩ u) :=
  ⟨h.os, h.tape, h.output, Nat.le_trans h.size (by simp [World.setCell]), fun j hj => (Below.heap_setCell w' ⟨k, i, none⟩ u j (fun e => by have e : j = k := e; omega)).trans (h.block j hj)⟩

set_option maxRecDepth 100000 in
set_option maxHeartbeats 4000000 in
theorem bytesOf_in (l : List UInt8) (n : Nat) (w : World) (hl : l.length = 5) (hn : v5 l = n) (h : n ≤ 4294967295) :
    Calls Try.prog 41 #[arr5 l] w fun e w' => e = .returned (arr5 (bytes4 n)) ∧ Below w.heap.size w w' := by
  obtain ⟨d0, d1, d2, d3, d4, rfl⟩ : ∃ d0 d1 d2 d3 d4, l = [d0, d1, d2, d3, d4] := by
    match l, hl with
    | [a, b, c, d, e], _ => exact ⟨a, b, c, d, e, rfl⟩
  have HN := Lib.hid hn
  clear hn hl
  show Calls Try.prog 41 #[.agg #[.int .u8 (d0.toNat : Int), .int .u8 (d1.toNat : Int), .int .u8 (d2.toNat : Int), .int .u8 (d3.toNat : Int), .int .u8 (d4.toNat : Int)]] w _
  go_enter Try.func41, Try.ntmps41
  go_wp2_with fail
  obtain ⟨W, hW⟩ : ∃ W, ((w.alloc (.cells #[.int .u8 (d0.toNat : Int), .int .u8 (d1.toNat : Int), .int .u8 (d2.toNat : Int), .int .u8 (d3.toNat : Int), .int .u8 (d4.toNat : Int)] 53)).alloc (.cells #[.int .u8 0, .int .u8 0, .int .u8 0, .int .u8 0] 40)) = W := ⟨_, rfl⟩
  have hB : Below w.heap.size w W := by rw [← hW]; exact ((Below.refl _ _).alloc (Nat.le_refl _) _).alloc (by simp) _
  have hX : Blk W (w.heap.size + 1) 40 #[.int .u8 0, .int .u8 0, .int .u8 0, .int .u8 0] := by
    rw [← hW]
    have := Blk.new (w.alloc (.cells #[.int .u8 (d0.toNat : Int), .int .u8 (d1.toNat : Int), .int .u8 (d2.toNat : Int), .int .u8 (d3.toNat : Int), .int .u8 (d4.toNat : Int)] 53)) 40 #[.int .u8 0, .int .u8 0, .int .u8 0, .int .u8 0]
    rw [World.size_alloc] at this
    exact this
  rw [hW]
  have HB := Lib.hid hB
  have HX := Lib.hid hX
  have x0 : ∀ w, (Instr.index 53 (.agg #[.int .u8 (d0.toNat : Int), .int .u8 (d1.toNat : Int), .int .u8 (d2.toNat : Int), .int .u8 (d3.toNat : Int), .int .u8 (d4.toNat : Int)]) (.int .i64 0)).run Try.prog w = .ok (.int .u8 (d0.toNat : Int)) w := fun _ => by kernel_rfl
  have x1 : ∀ w, (Instr.index 53 (.agg #[.int .u8 (d0.toNat : Int), .int .u8 (d1.toNat : Int), .int .u8 (d2.toNat : Int), .int .u8 (d3.toNat : Int), .int .u8 (d4.toNat : Int)]) (.int .i64 1)).run Try.prog w = .ok (.int .u8 (d1.toNat : Int)) w := fun _ => by kernel_rfl
  have x2 : ∀ w, (Instr.index 53 (.agg #[.int .u8 (d0.toNat : Int), .int .u8 (d1.toNat : Int), .int .u8 (d2.toNat : Int), .int .u8 (d3.toNat : Int), .int .u8 (d4.toNat : Int)]) (.int .i64 2)).run Try.prog w = .ok (.int .u8 (d2.toNat : Int)) w := fun _ => by kernel_rfl
  have x3 : ∀ w, (Instr.index 53 (.agg #[.int .u8 (d0.toNat : Int), .int .u8 (d1.toNat : Int), .int .u8 (d2.toNat : Int), .int .u8 (d3.toNat : Int), .int .u8 (d4.toNat : Int)]) (.int .i64 3)).run Try.prog w = .ok (.int .u8 (d3.toNat : Int)) w := fun _ => by kernel_rfl
  have x4 : ∀ w, (Instr.index 53 (.agg #[.int .u8 (d0.toNat : Int), .int .u8 (d1.toNat : Int), .int .u8 (d2.toNat : Int), .int .u8 (d3.toNat : Int), .int .u8 (d4.toNat : Int)]) (.int .i64 4)).run Try.prog w = .ok (.int .u8 (d4.toNat : Int)) w := fun _ => by kernel_rfl
  clear hB hX hW
  go_loopw [3, 7] (fun v i wr => ∃ k n1 : Nat, k ≤ 5 ∧ v = .int .u64 (n1 : Int) ∧ i = .int .i64 (k : Int) ∧ Hid (n1 = v5 ([d0, d1, d2, d3, d4].take k)) ∧ n1 + 4 ≤ 4 * 85 ^ k ∧ wr = W) (fun _ i _ => 5 - (intOf i).toNat)
  case atStart => exact ⟨0, 0, by omega, rfl, rfl, Lib.hid rfl, by omega, rfl⟩
  case round =>
    obtain ⟨k, n1, hk, rfl, rfl, HV, hb, rfl⟩ := hrel
    have hc : k = 0 ∨ k = 1 ∨ k = 2 ∨ k = 3 ∨ k = 4 ∨ k = 5 := by omega
    rcases hc with rfl | rfl | rfl | rfl | rfl | rfl
    · have hc1 : (d0.toNat : Int) ≤ 255 := by have := d0.toNat_lt; omega
      go_wp2_with fail
      go_roundw
      case rel => exact ⟨1, 85 * n1 + d0.toNat, by omega, by go_num, by go_num, Lib.hid (by rw [HV.out]; exact (v5_more [d0, d1, d2, d3, d4] 0 (by simp)).symm), by omega, trivial⟩
      case measure => simp [intOf]
    · have hc1 : (d1.toNat : Int) ≤ 255 := by have := d1.toNat_lt; omega
      go_wp2_with fail
      go_roundw
      case rel => exact ⟨2, 85 * n1 + d1.toNat, by omega, by go_num, by go_num, Lib.hid (by rw [HV.out]; exact (v5_more [d0, d1, d2, d3, d4] 1 (by simp)).symm), by omega, trivial⟩
      case measure => simp [intOf]
    · have hc1 : (d2.toNat : Int) ≤ 255 := by have := d2.toNat_lt; omega
      go_wp2_with fail
      go_roundw
      case rel => exact ⟨3, 85 * n1 + d2.toNat, by omega, by go_num, by go_num, Lib.hid (by rw [HV.out]; exact (v5_more [d0, d1, d2, d3, d4] 2 (by simp)).symm), by omega, trivial⟩
      case measure => simp [intOf]
    · have hc1 : (d3.toNat : Int) ≤ 255 := by have := d3.toNat_lt; omega
      go_wp2_with fail
      go_roundw
      case rel => exact ⟨4, 85 * n1 + d3.toNat, by omega, by go_num, by go_num, Lib.hid (by rw [HV.out]; exact (v5_more [d0, d1, d2, d3, d4] 3 (by simp)).symm), by omega, trivial⟩
      case measure => simp [intOf]
    · have hc1 : (d4.toNat : Int) ≤ 255 := by have := d4.toNat_lt; omega
      go_wp2_with fail
      go_roundw
      case rel => exact ⟨5, 85 * n1 + d4.toNat, by omega, by go_num, by go_num, Lib.hid (by rw [HV.out]; exact (v5_more [d0, d1, d2, d3, d4] 4 (by simp)).symm), by omega, trivial⟩
      case measure => simp [intOf]
    · obtain rfl : n1 = n := by rw [HV.out]; exact HN.out
      have c0 : wr.cell? ⟨w.heap.size + 1, 0, none⟩ = some (.int .u8 0) := HX.out.cell 0
      have c1 : wr.cell? ⟨w.heap.size + 1, 1, none⟩ = some (.int .u8 0) := HX.out.cell 1
      have c2 : wr.cell? ⟨w.heap.size + 1, 2, none⟩ = some (.int .u8 0) := HX.out.cell 2
      have c3 : wr.cell? ⟨w.heap.size + 1, 3, none⟩ = some (.int .u8 0) := HX.out.cell 3
      have f0 := HX.out.frozen 0
      have f1 := HX.out.frozen 1
      have f2 := HX.out.frozen 2
      have f3 := HX.out.frozen 3
      go_wp2_with fail
      refine bodyPost_ret (v := .agg #[.int .u8 ((n1 : Int) / 16777216), .int .u8 ((n1 : Int) / 65536 % 256), .int .u8 ((n1 : Int) / 256 % 256), .int .u8 ((n1 : Int) % 256)]) (by simp [results, Try.results41, go_sem, c0, c1, c2, c3]) rfl ⟨?_, ?_⟩
      · rw [arr_bytes4 h]
      · have hs : w.heap.size ≤ w.heap.size + 1 := Nat.le_succ _
        exact set_low (set_low (set_low (set_low HB.out hs _ _) hs _ _) hs _ _) hs _ _

set_option maxRecDepth 100000 in
set_option maxHeartbeats 4000000 in
theorem bytesOf_no (l : List UInt8) (n : Nat) (w : World) (hl : l.length = 5) (hn : v5 l = n) (h : 4294967295 < n) :
    Calls Try.prog 41 #[arr5 l] w fun e w' => e = gUp 3 ∧ Below w.heap.size w w' := by
  obtain ⟨d0, d1, d2, d3, d4, rfl⟩ : ∃ d0 d1 d2 d3 d4, l = [d0, d1, d2, d3, d4] := by
    match l, hl with
    | [a, b, c, d, e], _ => exact ⟨a, b, c, d, e, rfl⟩
  have HN := Lib.hid hn
  clear hn hl
  show Calls Try.prog 41 #[.agg #[.int .u8 (d0.toNat : Int), .int .u8 (d1.toNat : Int), .int .u8 (d2.toNat : Int), .int .u8 (d3.toNat : Int), .int .u8 (d4.toNat : Int)]] w _
  go_enter Try.func41, Try.ntmps41
  go_wp2_with fail
  obtain ⟨W, hW⟩ : ∃ W, ((w.alloc (.cells #[.int .u8 (d0.toNat : Int), .int .u8 (d1.toNat : Int), .int .u8 (d2.toNat : Int), .int .u8 (d3.toNat : Int), .int .u8 (d4.toNat : Int)] 53)).alloc (.cells #[.int .u8 0, .int .u8 0, .int .u8 0, .int .u8 0] 40)) = W := ⟨_, rfl⟩
  have hB : Below w.heap.size w W := by rw [← hW]; exact ((Below.refl _ _).alloc (Nat.le_refl _) _).alloc (by simp) _
  have hX : Blk W (w.heap.size + 1) 40 #[.int .u8 0, .int .u8 0, .int .u8 0, .int .u8 0] := by
    rw [← hW]
    have := Blk.new (w.alloc (.cells #[.int .u8 (d0.toNat : Int), .int .u8 (d1.toNat : Int), .int .u8 (d2.toNat : Int), .int .u8 (d3.toNat : Int), .int .u8 (d4.toNat : Int)] 53)) 40 #[.int .u8 0, .int .u8 0, .int .u8 0, .int .u8 0]
    rw [World.size_alloc] at this
    exact this
  rw [hW]
  have HB := Lib.hid hB
  have HX := Lib.hid hX
  have x0 : ∀ w, (Instr.index 53 (.agg #[.int .u8 (d0.toNat : Int), .int .u8 (d1.toNat : Int), .int .u8 (d2.toNat : Int), .int .u8 (d3.toNat : Int), .int .u8 (d4.toNat : Int)]) (.int .i64 0)).run Try.prog w = .ok (.int .u8 (d0.toNat : Int)) w := fun _ => by kernel_rfl
  have x1 : ∀ w, (Instr.index 53 (.agg #[.int .u8 (d0.toNat : Int), .int .u8 (d1.toNat : Int), .int .u8 (d2.toNat : Int), .int .u8 (d3.toNat : Int), .int .u8 (d4.toNat : Int)]) (.int .i64 1)).run Try.prog w = .ok (.int .u8 (d1.toNat : Int)) w := fun _ => by kernel_rfl
  have x2 : ∀ w, (Instr.index 53 (.agg #[.int .u8 (d0.toNat : Int), .int .u8 (d1.toNat : Int), .int .u8 (d2.toNat : Int), .int .u8 (d3.toNat : Int), .int .u8 (d4.toNat : Int)]) (.int .i64 2)).run Try.prog w = .ok (.int .u8 (d2.toNat : Int)) w := fun _ => by kernel_rfl
  have x3 : ∀ w, (Instr.index 53 (.agg #[.int .u8 (d0.toNat : Int), .int .u8 (d1.toNat : Int), .int .u8 (d2.toNat : Int), .int .u8 (d3.toNat : Int), .int .u8 (d4.toNat : Int)]) (.int .i64 3)).run Try.prog w = .ok (.int .u8 (d3.toNat : Int)) w := fun _ => by kernel_rfl
  have x4 : ∀ w, (Instr.index 53 (.agg #[.int .u8 (d0.toNat : Int), .int .u8 (d1.toNat : Int), .int .u8 (d2.toNat : Int), .int .u8 (d3.toNat : Int), .int .u8 (d4.toNat : Int)]) (.int .i64 4)).run Try.prog w = .ok (.int .u8 (d4.toNat : Int)) w := fun _ => by kernel_rfl
  clear hB hX hW
  go_loopw [3, 7] (fun v i wr => ∃ k n1 : Nat, k ≤ 5 ∧ v = .int .u64 (n1 : Int) ∧ i = .int .i64 (k : Int) ∧ Hid (n1 = v5 ([d0, d1, d2, d3, d4].take k)) ∧ n1 + 4 ≤ 4 * 85 ^ k ∧ wr = W) (fun _ i _ => 5 - (intOf i).toNat)
  case atStart => exact ⟨0, 0, by omega, rfl, rfl, Lib.hid rfl, by omega, rfl⟩
  case round =>
    obtain ⟨k, n1, hk, rfl, rfl, HV, hb, rfl⟩ := hrel
    have hc : k = 0 ∨ k = 1 ∨ k = 2 ∨ k = 3 ∨ k = 4 ∨ k = 5 := by omega
    rcases hc with rfl | rfl | rfl | rfl | rfl | rfl
    · have hc1 : (d0.toNat : Int) ≤ 255 := by have := d0.toNat_lt; omega
      go_wp2_with fail
      go_roundw
      case rel => exact ⟨1, 85 * n1 + d0.toNat, by omega, by go_num, by go_num, Lib.hid (by rw [HV.out]; exact (v5_more [d0, d1, d2, d3, d4] 0 (by simp)).symm), by omega, trivial⟩
      case measure => simp [intOf]
    · have hc1 : (d1.toNat : Int) ≤ 255 := by have := d1.toNat_lt; omega
      go_wp2_with fail
      go_roundw
      case rel => exact ⟨2, 85 * n1 + d1.toNat, by omega, by go_num, by go_num, Lib.hid (by rw [HV.out]; exact (v5_more [d0, d1, d2, d3, d4] 1 (by simp)).symm), by omega, trivial⟩
      case measure => simp [intOf]
    · have hc1 : (d2.toNat : Int) ≤ 255 := by have := d2.toNat_lt; omega
      go_wp2_with fail
      go_roundw
      case rel => exact ⟨3, 85 * n1 + d2.toNat, by omega, by go_num, by go_num, Lib.hid (by rw [HV.out]; exact (v5_more [d0, d1, d2, d3, d4] 2 (by simp)).symm), by omega, trivial⟩
      case measure => simp [intOf]
    · have hc1 : (d3.toNat : Int) ≤ 255 := by have := d3.toNat_lt; omega
      go_wp2_with fail
      go_roundw
      case rel => exact ⟨4, 85 * n1 + d3.toNat, by omega, by go_num, by go_num, Lib.hid (by rw [HV.out]; exact (v5_more [d0, d1, d2, d3, d4] 3 (by simp)).symm), by omega, trivial⟩
      case measure => simp [intOf]
    · have hc1 : (d4.toNat : Int) ≤ 255 := by have := d4.toNat_lt; omega
      go_wp2_with fail
      go_roundw
      case rel => exact ⟨5, 85 * n1 + d4.toNat, by omega, by go_num, by go_num, Lib.hid (by rw [HV.out]; exact (v5_more [d0, d1, d2, d3, d4] 4 (by simp)).symm), by omega, trivial⟩
      case measure => simp [intOf]
    · obtain rfl : n1 = n := by rw [HV.out]; exact HN.out
      have hbig : (4294967295 : Int) < (n1 : Int) := by omega
      go_wp2_with fail
      refine (up_any _ _).mono ?_
      rintro e w2 ⟨rfl, rfl⟩
      exact ⟨rfl, rfl, HB.out⟩
end Go.Proofs.Ytgfohfgallojkaa
namespace Go.Proofs.Ytgfohfgallojkaa
open Go.RowKit Oct Asc

theorem news_pre {w : World} {k : Nat} {cs : Array Value} {t : TypeId} {x l : List UInt8} {n : Nat} (h : Blk w k t cs) (hx : cs.toList = cellsOf l) (hp : x = l.take n) :
    ∀ W : World, (∀ j, j < w.heap.size → W.heap[j]? = w.heap[j]?) → ∀ (j : Nat) u, (cellsOf x)[j]? = some u → W.cell? ((⟨k, 0, none⟩ : Addr).add j) = some u := by
  intro W hW j u hu
  refine news_blk h hx W hW j u ?_
  subst hp
  unfold cellsOf at hu ⊢
  rw [List.map_take, List.getElem?_take] at hu
  split at hu
  · exact hu
  · cases hu
/-- Digits, filled up. -/
def fillK (a : List UInt8) (n k : Nat) : List UInt8 := a.take n ++ List.replicate k 84 ++ a.drop (n + k)
theorem fillK_zero (a : List UInt8) (n : Nat) : fillK a n 0 = a := by unfold fillK; simp
theorem fillK_len {a : List UInt8} {n k : Nat} (ha : a.length = 5) (h : n + k ≤ 5) : (fillK a n k).length = 5 := by
  unfold fillK
  simp only [List.length_append, List.length_take, List.length_replicate, List.length_drop]
  omega
theorem fillK_set {a : List UInt8} {n k : Nat} (ha : a.length = 5) (h : n + k < 5) : (fillK a n k).set (n + k) 84 = fillK a n (k + 1) := by
  unfold fillK
  have h1 : (a.take n ++ List.replicate k 84).length = n + k := by simp; omega
  rw [List.drop_eq_getElem_cons (by omega), List.set_append_right _ _ (by omega), h1, Nat.sub_self, List.set_cons_zero, List.replicate_succ', ← Nat.add_assoc]
  simp
theorem fillK_val {a : List UInt8} {n : Nat} (ha : a.length = 5) (h : n ≤ 5) : v5 (fillK a n (5 - n)) = val5 (a.take n) := by
  unfold fillK val5 v5
  have h1 : (a.take n).length = n := by rw [List.length_take]; omega
  rw [h1, List.drop_eq_nil_of_le (by omega), List.append_nil]
theorem cells_set (l : List UInt8) (i : Nat) (b : UInt8) : (cellsOf l).toArray.setIfInBounds i (.int .u8 (b.toNat : Int)) = (cellsOf (l.set i b)).toArray := by
  unfold cellsOf
  rw [List.map_set]
  simp

theorem Dec.far {B : Nat} {w : World} {g k : Nat} {r : Option Nat} {rest o : List UInt8} {m : Nat} (h : Dec B w g r rest o m) (hk : k ≠ g) (hr : r ≠ some k) (i : Nat) (u : Value) : Dec B (w.setCell ⟨k, i, none⟩ u) g r rest o m := by
  obtain ⟨R, v, h1, h2, h3, h4, rfl, h6, h7⟩ := h
  exact ⟨R, v, h1, h2, h3.far (p := ⟨k, i, none⟩) (fun e => hk e.symm) u, ownsRow_setCell_other h4 hr u, rfl, h6, h7⟩
theorem Dec.lt {B : Nat} {w : World} {g : Nat} {r : Option Nat} {rest o : List UInt8} {m : Nat} (h : Dec B w g r rest o m) : g < w.heap.size ∧ ∀ k, r = some k → k < w.heap.size := by
  obtain ⟨R, v, h1, h2, h3, h4, rfl, h6, h7⟩ := h
  exact ⟨h3.lt, fun k hk => (h4.lt k hk).2⟩
theorem below_two {g : Nat} {w w' : World} {r : Option Nat} (h : Below w.heap.size w w') : Two w w' g r := ⟨h.os, h.tape, h.output, h.size, fun k hk _ _ => h.block k hk⟩
theorem Dec.below {B : Nat} {w w' : World} {g : Nat} {r : Option Nat} {rest o : List UInt8} {m : Nat} (h : Dec B w g r rest o m) (hb : Below w.heap.size w w') : Dec B w' g r rest o m := by
  obtain ⟨R, v, h1, h2, h3, h4, h5, h6, h7⟩ := h
  refine ⟨R, v, h1, h2, h3.below hb h3.lt, h4.kept (row := none) ⟨hb.os, hb.tape, hb.output, hb.size, fun i hi _ => hb.block i hi⟩ ?_, h5, h6, h7⟩
  rcases h4.2 with ⟨e, _⟩ | ⟨k, cap, cur, e, _⟩
  · exact .inl (by rw [e]; rfl)
  · exact .inr (by rw [e]; simp [Value.ownBlock])
/-- The loop that fills the digits up. -/
def FillTo (B : Nat) (w : World) (g : Nat) (r : Option Nat) (rest o : List UInt8) (m : Nat) (a : List UInt8) (n k : Nat) (wr : World) : Prop :=
  Blk wr w.heap.size 53 (cellsOf (fillK a n k)).toArray ∧ Dec B wr g r rest o m ∧ Two w wr g r ∧ wr.heap.size = w.heap.size + 1
theorem FillTo.next {B : Nat} {w : World} {g : Nat} {r : Option Nat} {rest o : List UInt8} {m : Nat} {a : List UInt8} {n k : Nat} {wr : World} (h : FillTo B w g r rest o m a n k wr) (ha : a.length = 5) (hnk : n + k < 5) (hg : g < w.heap.size) (hr : ∀ k, r = some k → k < w.heap.size) :
    FillTo B w g r rest o m a n (k + 1) (wr.setCell ⟨w.heap.size, n + k, none⟩ (.int .u8 84)) := by
  obtain ⟨h1, h2, h3, h4⟩ := h
  refine ⟨?_, h2.far (by omega) (fun e => by have := hr _ e; omega) _ _, h3.row (.inr (Nat.le_refl _)) _ _, by simp [World.setCell, h4]⟩
  have := h1.set_ (n + k) (.int .u8 84)
  rw [show (84 : Int) = ((84 : UInt8).toNat : Int) from rfl, cells_set, fillK_set ha hnk] at this
  exact this

set_option maxRecDepth 100000 in
set_option maxHeartbeats 4000000 in
theorem last_in (B g : Nat) (r : Option Nat) (rest o : List UInt8) (m : Nat) (a : List UInt8) (n : Nat) (w : World) (hB : B ≤ w.heap.size) (hm : m ≤ 1048576) (ho : o.length ≤ m) (ha : a.length = 5) (hn : n ≤ 4) (F : Int × List UInt8) (hF : F = lastD m o (a.take n)) (h : Dec B w g r rest o m) :
    Calls Try.prog 44 #[.pointer (some ⟨g, 0, none⟩), arr5 a, .int .i64 (n : Int)] w (DecEnd B w g r m F) := by
  have hal : (a.take n).length = n := by rw [List.length_take]; omega
  obtain ⟨d0, d1, d2, d3, d4, had⟩ : ∃ d0 d1 d2 d3 d4, a = [d0, d1, d2, d3, d4] := by
    match a, ha with
    | [a, b, c, d, e], _ => exact ⟨a, b, c, d, e, rfl⟩
  have harr : arr5 a = .agg #[.int .u8 (d0.toNat : Int), .int .u8 (d1.toNat : Int), .int .u8 (d2.toNat : Int), .int .u8 (d3.toNat : Int), .int .u8 (d4.toNat : Int)] := by rw [had]; rfl
  obtain ⟨W, hW⟩ : ∃ W, w.alloc (.cells #[.int .u8 (d0.toNat : Int), .int .u8 (d1.toNat : Int), .int .u8 (d2.toNat : Int), .int .u8 (d3.toNat : Int), .int .u8 (d4.toNat : Int)] 53) = W := ⟨_, rfl⟩
  have hX : Blk W w.heap.size 53 (cellsOf (fillK a n 0)).toArray := by
    rw [← hW, fillK_zero, had]
    exact Blk.new w _ _
  have hD : Dec B W g r rest o m := by rw [← hW]; exact h.alloc _
  have hT : Two w W g r := by rw [← hW]; exact (Two.refl w g r).alloc _
  have hWs : W.heap.size = w.heap.size + 1 := by rw [← hW]; simp
  rw [harr]
  have HX := Lib.hid hX
  have HD := Lib.hid hD
  have HT := Lib.hid hT
  have HWs := Lib.hid hWs
  have HA := Lib.hid (And.intro ha had)
  obtain ⟨hg0, hr0⟩ := Dec.lt h
  clear hX hD hT hWs had h harr
  rcases Nat.eq_zero_or_pos n with hz | hpos
  · subst hz
    have HF := Lib.hid (show F = (0, o) by rw [hF]; unfold lastD; rw [if_pos (by simp)])
    clear hF
    go_enter Try.func44, Try.ntmps44
    go_wp2_with fail
    go_end0
    exact end_ok (.inl rfl) HT.out (Put.same HD.out) HF.out
  · have hn0 : ¬ (n : Int) = 0 := by omega
    have hne : a.take n ≠ [] := by intro e; rw [e] at hal; simp at hal; omega
    by_cases h1 : n = 1
    · have h1' : ((n : Int) == 1) = true := by rw [h1]; rfl
      have HF := Lib.hid (show F = (3, []) by rw [hF]; unfold lastD; rw [if_neg hne, if_pos (.inl (by omega))])
      clear hF hne
      go_enter Try.func44, Try.ntmps44
      go_wp2_with fail
      refine (up_any _ _).mono ?_
      rintro e w' ⟨rfl, rfl⟩
      refine ⟨rfl, ?_⟩
      exact end_no (.inl rfl) HT.out (Two.refl _ _ _) HF.out (by decide)
    · have h1' : ¬ (n : Int) = 1 := by omega
      have hs0 : (0 : Int) ≤ (n : Int) := by omega
      have hs1 : (n : Int) ≤ 5 := by omega
      have hwr : IntKind.i64.wrap (5 - (n : Int)) = 5 - (n : Int) := IntWalk.i64_in _ (by omega)
      obtain ⟨q, hq⟩ : ∃ q, 5 - n = q := ⟨_, rfl⟩
      obtain ⟨hgl, hrl⟩ := Dec.lt HD.out
      have HL := Lib.hid (show FillTo B w g r rest o m a n 0 W from ⟨HX.out, HD.out, HT.out, HWs.out⟩)
      have hq1 : (n : Int) + (q : Int) = 5 := by omega
      have HGl := Lib.hid (And.intro hg0 hr0)
      clear hgl hrl hg0 hr0
      go_enter Try.func44, Try.ntmps44
      go_wp2_with fail
      go_loopw [16] (fun i wr => ∃ k : Nat, k ≤ q ∧ i = .int .i64 (k : Int) ∧ FillTo B w g r rest o m a n k wr) (fun i _ => q - (intOf i).toNat)
      case atStart => exact ⟨0, by omega, rfl, HL.out⟩
      case round =>
        clear HL HX HD HT
        obtain ⟨k, hk, rfl, hL⟩ := hrel
        by_cases hlt : k < q
        · have i0 : (0 : Int) ≤ (k : Int) := by omega
          have i1 : (k : Int) < (q : Int) := by omega
          have i2 : (n : Int) + (k : Int) < 5 := by omega
          have i3 : (0 : Int) ≤ (n : Int) + (k : Int) := by omega
          have hfl := fillK_len (n := n) (k := k) HA.out.1 (by omega)
          obtain ⟨y, x⟩ : ∃ y : Int, wr.cell? ⟨w.heap.size, n + k, none⟩ = some (.int .u8 y) := by
            refine ⟨(((fillK a n k)[n + k]'(by omega)).toNat : Int), ?_⟩
            rw [hL.1.cell]
            unfold cellsOf
            rw [List.getElem?_toArray, List.getElem?_map, List.getElem?_eq_getElem (by omega)]
            rfl
          have f := hL.1.frozen (n + k)
          have HN := Lib.hid (hL.next HA.out.1 (by omega) HGl.out.1 HGl.out.2)
          have e1 : ((n : Int) + (k : Int)).toNat = n + k := by omega
          clear hL hfl
          go_wp2_with fail
          go_roundw
          case rel => exact ⟨k + 1, by omega, by go_num, HN.out⟩
          case measure => simp [intOf]; omega
        · obtain rfl : k = q := by omega
          have hlf : (fillK a n k).length = 5 := fillK_len HA.out.1 (by omega)
          have hvf : v5 (fillK a n k) = val5 (a.take n) := by rw [← hq]; exact fillK_val HA.out.1 (by omega)
          obtain ⟨L, hLq⟩ : ∃ L, fillK a n k = L := ⟨_, rfl⟩
          obtain ⟨hX, hD, hT, hS⟩ := hL
          rw [hLq] at hlf hvf hX
          obtain ⟨y0, y1, y2, y3, y4, hy⟩ : ∃ y0 y1 y2 y3 y4, L = [y0, y1, y2, y3, y4] := by
            match L, hlf with
            | [a, b, c, d, e], _ => exact ⟨a, b, c, d, e, rfl⟩
          have hX2 : Blk wr w.heap.size 53 #[.int .u8 (y0.toNat : Int), .int .u8 (y1.toNat : Int), .int .u8 (y2.toNat : Int), .int .u8 (y3.toNat : Int), .int .u8 (y4.toNat : Int)] := by rw [hy] at hX; exact hX
          have harr : arr5 L = .agg #[.int .u8 (y0.toNat : Int), .int .u8 (y1.toNat : Int), .int .u8 (y2.toNat : Int), .int .u8 (y3.toNat : Int), .int .u8 (y4.toNat : Int)] := by rw [hy]; rfl
          have c0 : wr.cell? ⟨w.heap.size, 0, none⟩ = some (.int .u8 (y0.toNat : Int)) := hX2.cell 0
          have c1 : wr.cell? ⟨w.heap.size, 1, none⟩ = some (.int .u8 (y1.toNat : Int)) := hX2.cell 1
          have c2 : wr.cell? ⟨w.heap.size, 2, none⟩ = some (.int .u8 (y2.toNat : Int)) := hX2.cell 2
          have c3 : wr.cell? ⟨w.heap.size, 3, none⟩ = some (.int .u8 (y3.toNat : Int)) := hX2.cell 3
          have c4 : wr.cell? ⟨w.heap.size, 4, none⟩ = some (.int .u8 (y4.toNat : Int)) := hX2.cell 4
          have hlast : F = if 4294967295 < val5 (a.take n) then (3, []) else if m < o.length + (n - 1) then (5, []) else (0, o ++ (bytes4 (val5 (a.take n))).take (n - 1)) := by
            rw [hF]
            unfold lastD
            rw [if_neg hne, hal]
            by_cases hv : 4294967295 < val5 (a.take n)
            · rw [if_pos (.inr hv), if_pos hv]
            · rw [if_neg (by omega), if_neg hv]
          obtain ⟨V, hV⟩ : ∃ V, val5 (a.take n) = V := ⟨_, rfl⟩
          rw [hV] at hlast hvf
          have HD := Lib.hid hD
          have HT := Lib.hid hT
          have HS := Lib.hid hS
          have HAr := Lib.hid harr
          have HLv := Lib.hid (And.intro hlf hvf)
          have hkk : ¬ (k : Int) < (k : Int) := by omega
          clear hX hX2 hD hT hS hF hV hLq hlf hvf hy hlt harr hne hal hW
          by_cases hv : 4294967295 < V
          · have HF := Lib.hid (hlast.trans (if_pos hv))
            clear hlast
            go_wp2_with fail
            rw [← HAr.out]
            refine (bytesOf_no L V _ HLv.out.1 HLv.out.2 hv).mono ?_
            rintro e w2 ⟨rfl, hb⟩
            refine ⟨rfl, ?_⟩
            exact end_no (.inl rfl) HT.out (below_two hb) HF.out (by decide)
          · have hF2 := hlast.trans (if_neg hv)
            clear hlast
            obtain ⟨b0, b1, b2, b3, hb4⟩ : ∃ b0 b1 b2 b3, bytes4 V = [b0, b1, b2, b3] := ⟨_, _, _, _, rfl⟩
            have hb5 : arr5 (bytes4 V) = .agg #[.int .u8 (b0.toNat : Int), .int .u8 (b1.toNat : Int), .int .u8 (b2.toNat : Int), .int .u8 (b3.toNat : Int)] := by rw [hb4]; rfl
            rw [hb4] at hF2
            have HB5 := Lib.hid hb5
            have HF := Lib.hid hF2
            have hwn : IntKind.i64.wrap ((n : Int) - 1) = (n : Int) - 1 := IntWalk.i64_in _ (by omega)
            obtain ⟨p, hp⟩ : ∃ p, n = p + 1 := ⟨n - 1, by omega⟩
            have hp1 : (n : Int) - 1 = (p : Int) := by omega
            have hp0 : (0 : Int) ≤ (p : Int) := by omega
            have hp4 : (p : Int) ≤ 4 := by omega
            clear hF2 hb4 hb5
            go_wp2_with fail
            rw [← HAr.out]
            refine (bytesOf_in L V _ HLv.out.1 HLv.out.2 (by omega)).mono ?_
            rintro e w2 ⟨rfl, hb⟩
            rw [HB5.out]
            have HD2 := Lib.hid (Dec.below HD.out hb)
            have HT2 := Lib.hid (HT.out.trans (below_two hb) (.inl rfl))
            have HT4 := Lib.hid (below_two (g := g) (r := r) hb)
            clear hb
            go_wp2_with fail
            by_cases hfull : m < o.length + p
            · have HF2 := Lib.hid (HF.out.trans (if_pos (by omega)))
              refine (put_no B g r rest o m _ p 4 _ hm ho (HD2.out.alloc _) hfull).mono ?_
              rintro e w3 ⟨rfl, x, rfl⟩
              refine ⟨rfl, ?_⟩
              exact end_no (.inl rfl) HT.out (((below_two (Below.refl _ _)).trans HT4.out (.inl rfl)).alloc _ |>.drewN x) HF2.out (by decide)
            · have HF2 := Lib.hid (HF.out.trans (if_neg (by omega)))
              have hBs : B ≤ w2.heap.size := by have := HT2.out.size; omega
              refine (put_ok B g r rest o ([b0, b1, b2, b3].take p) m ⟨w2.heap.size, 0, none⟩ p 4 _ (by simp; omega) hm (by omega) (HD2.out.alloc _) (by rw [List.length_take]; simp; omega) (by omega) (news_pre (Blk.new w2 _ _) rfl rfl)).mono ?_
              rintro e w3 ⟨rfl, hp3⟩
              have HP := Lib.hid (Put.then (.inl rfl) (HT2.out.alloc _) hp3)
              clear hp3
              go_wp2_with fail
              go_end0
              exact end_ok (.inl rfl) (Two.refl _ _ _) HP.out (HF2.out.trans (by rw [show n - 1 = p by omega]))
end Go.Proofs.Ytgfohfgallojkaa
namespace Go.Proofs.Ytgfohfgallojkaa
open Go.RowKit Oct Asc

theorem ext_one {R : ByteArray} {c : UInt8} {t : List UInt8} (h : R.data.toList = c :: t) : R.extract 0 1 = ⟨#[c]⟩ ∧ (R.extract 1 R.size).data.toList = t ∧ 0 < R.size := by
  have hs : R.size = t.length + 1 := by rw [len_size h]; rfl
  have h0 : 0 < R.size := by omega
  have hc := rest_cons R h0
  rw [h] at hc
  injection hc with h1 h2
  refine ⟨?_, h2.symm, h0⟩
  apply ByteArray.ext
  apply Array.ext'
  rw [ByteArray.data_extract, Array.toList_extract, h, List.extract_eq_take_drop]
  simp
theorem dtake_no (B g : Nat) (r : Option Nat) (o : List UInt8) (m : Nat) (w : World) (h : Dec B w g r [] o m) :
    Calls Try.prog 42 #[.pointer (some ⟨g, 0, none⟩), .int .i64 1] w fun e w' => e = gUp 4 ∧ w = w' := by
  obtain ⟨R, v, h1, h2, h3, h4, h5, h6, h7⟩ := h
  have hs : R.size = 0 := by rw [len_size h1]; rfl
  exact take_no 1 g R v m w h2 (by omega) h3
theorem dtake_one (B g : Nat) (r : Option Nat) (c : UInt8) (t o : List UInt8) (m : Nat) (w : World) (h : Dec B w g r (c :: t) o m) :
    Calls Try.prog 42 #[.pointer (some ⟨g, 0, none⟩), .int .i64 1] w fun e w' => e = .returned (.string ⟨#[c]⟩) ∧ Read1 B w g r t o m w' := by
  obtain ⟨R, v, h1, h2, h3, h4, h5, h6, h7⟩ := h
  obtain ⟨e1, e2, e3⟩ := ext_one h1
  refine (take_ok 1 g R v m w h2 e3 h3).mono ?_
  rintro e w' ⟨he, hX, hg⟩
  rw [e1] at he
  exact ⟨he, Dec.grown h4 h5 h6 h7 hg e2 (by rw [ByteArray.size_extract]; omega) hX, two_of_grown hg⟩

theorem fiveD_drop (m : Nat) (o ds : List UInt8) : ∀ l : List UInt8, fiveD m o ds l = fiveD m o ds (l.dropWhile whiteS)
  | [] => rfl
  | c :: t => by
    rw [List.dropWhile_cons]
    by_cases hw : whiteS c = true
    · rw [if_pos hw, fiveD_white _ hw, fiveD_drop m o ds t]
    · rw [if_neg hw]
theorem two_of_drew {w w' : World} {g : Nat} {r : Option Nat} (h : Two w.drew w' g r) : Two w w' g r := ⟨h.os, h.tape, h.output, h.size, h.block⟩
theorem DecEnd.then {B : Nat} {w w1 w' : World} {g : Nat} {r r1 : Option Nat} {m : Nat} {F : Int × List UInt8} {e : Ending} (h : DecEnd B w1 g r1 m F e w') (hr : r1 = r ∨ ∃ k, r1 = some k ∧ w.heap.size ≤ k) (hT : Two w w1 g r) : DecEnd B w g r m F e w' := by
  rcases h with ⟨h1, h2, rest, h3⟩ | ⟨h1, h2, h3⟩
  · exact .inl ⟨h1, h2, rest, Put.then hr hT h3⟩
  · exact .inr ⟨h1, h2, hT.trans h3 hr⟩
/-- The loop of unfive, so far: n digits wait in the array. -/
def FiveTo (B : Nat) (w : World) (g : Nat) (r : Option Nat) (m : Nat) (F : Int × List UInt8) (n : Nat) (wr : World) : Prop :=
  ∃ (r' : Option Nat) (rest o a : List UInt8), (r' = r ∨ ∃ k, r' = some k ∧ w.heap.size ≤ k) ∧ r' ≠ some w.heap.size ∧ Dec B wr g r' rest o m ∧ Two w wr g r ∧ o.length ≤ m ∧ a.length = 5 ∧ n ≤ 4 ∧
    Blk wr w.heap.size 53 (cellsOf a).toArray ∧ w.heap.size < wr.heap.size ∧ F = fiveD m o (a.take n) rest

set_option maxRecDepth 100000 in
set_option maxHeartbeats 4000000 in
theorem put_blk_no {B g : Nat} {r : Option Nat} {rest o : List UInt8} {m : Nat} {cs : Array Value} {t : TypeId} {p cap : Nat} {w : World} (hm : m ≤ 1048576) (hol : o.length ≤ m) (h : Dec B w g r rest o m) (hn : m < o.length + p) :
    Calls Try.prog 40 #[.pointer (some ⟨g, 0, none⟩), .slice (some ⟨w.heap.size, 0, none⟩) p cap] (w.alloc (.cells cs t)) fun e w' => e = gUp 5 ∧ Two w w' g r := by
  refine (put_no B g r rest o m _ p cap _ hm hol (h.alloc _) hn).mono ?_
  rintro e w' ⟨rfl, q, rfl⟩
  exact ⟨rfl, ((Two.refl w g r).alloc _).drewN q⟩
theorem put_blk_ok {B g : Nat} {r : Option Nat} {rest o l : List UInt8} {m : Nat} {cs : Array Value} {t : TypeId} {p cap : Nat} {w : World} (hB : B ≤ w.heap.size) (hm : m ≤ 1048576) (h : Dec B w g r rest o m) (hn : ¬ m < o.length + p) (hp : 0 < p) (hpl : p ≤ l.length) (hl : cs.toList = cellsOf l) :
    Calls Try.prog 40 #[.pointer (some ⟨g, 0, none⟩), .slice (some ⟨w.heap.size, 0, none⟩) p cap] (w.alloc (.cells cs t)) fun e w' => e = .returned (.tuple #[]) ∧ Put B w g r rest (o ++ l.take p) m w' := by
  refine (put_ok B g r rest o (l.take p) m ⟨w.heap.size, 0, none⟩ p cap _ (by simp; omega) hm (by omega) (h.alloc _) (by rw [List.length_take]; omega) hp (news_pre (Blk.new w _ _) hl rfl)).mono ?_
  rintro e w' ⟨rfl, hp⟩
  exact ⟨rfl, Put.then (.inl rfl) ((Two.refl w g r).alloc _) hp⟩
theorem five_next {B : Nat} {w wr w1 : World} {g : Nat} {r r1 : Option Nat} {rest o : List UInt8} {m : Nat} {t : TypeId} {cs : Array Value} (hr : r1 = r ∨ ∃ k, r1 = some k ∧ w.heap.size ≤ k) (hrk : r1 ≠ some w.heap.size) (hT : Two w wr g r) (hS : w.heap.size < wr.heap.size) (hX : Blk wr w.heap.size t cs) (hg : g < w.heap.size) (hp : Put B wr g r1 rest o m w1) :
    ∃ r2, (r2 = r ∨ ∃ k, r2 = some k ∧ w.heap.size ≤ k) ∧ r2 ≠ some w.heap.size ∧ Dec B w1 g r2 rest o m ∧ Two w w1 g r ∧ Blk w1 w.heap.size t cs ∧ w.heap.size < w1.heap.size := by
  obtain ⟨r2, hr2, hd2, ht2⟩ := hp
  refine ⟨r2, ?_, ?_, hd2, hT.trans ht2 hr, ht2.blk hX (by omega) (fun e => hrk e.symm), Nat.lt_of_lt_of_le hS ht2.size⟩
  · rcases hr2 with rfl | ⟨k, rfl, hk⟩
    · exact hr
    · exact .inr ⟨k, rfl, by omega⟩
  · rcases hr2 with rfl | ⟨k, rfl, hk⟩
    · exact hrk
    · intro e
      injection e with e
      omega
theorem make_four (w : World) : (Instr.makeSlice 29 (.int .i64 4) (.int .i64 4)).run Try.prog w = .ok (.slice (some ⟨w.heap.size, 0, none⟩) 4 4) (w.alloc (.cells #[.int .u8 0, .int .u8 0, .int .u8 0, .int .u8 0] 5)) := by kernel_rfl
set_option maxRecDepth 100000 in
set_option maxHeartbeats 4000000 in
theorem unfive_in (B g : Nat) (r : Option Nat) (rest : List UInt8) (m : Nat) (w : World) (hB : B ≤ w.heap.size) (hm : m ≤ 1048576) (F : Int × List UInt8) (hF : F = fiveD m [] [] rest) (h : Dec B w g r rest [] m) :
    Calls Try.prog 24 #[.pointer (some ⟨g, 0, none⟩)] w (DecEnd B w g r m F) := by
  obtain ⟨hg0, hr0⟩ := Dec.lt h
  have HF := Lib.hid hF
  have H := Lib.hid h
  have HG := Lib.hid (And.intro hg0 hr0)
  clear hF h hg0 hr0
  have hmk := make_four
  go_enter Try.func24, Try.ntmps24
  go_wp2_with fail
  go_loopw [3] (fun v wr => ∃ n : Nat, v = .int .i64 (n : Int) ∧ FiveTo B w g r m F n wr) (fun _ wr => restAt wr g)
  case atStart =>
    refine ⟨0, rfl, r, rest, [], [0, 0, 0, 0, 0], .inl rfl, fun e => by have := HG.out.2 _ e; omega, H.out.alloc _, (Two.refl _ _ _).alloc _, by simp, rfl, by omega, Blk.new w _ _, by simp, HF.out⟩
  case round =>
    clear H HF
    obtain ⟨n, rfl, r1, rest1, o, a, hr, hrk, hD, hT, ho, ha, hn4, hX, hS, hF⟩ := hrel
    have HM := Lib.hid (dec_rest hD)
    have HR := Lib.hid hr
    have HRK := Lib.hid hrk
    have HT := Lib.hid hT
    have HD := Lib.hid hD
    have HO := Lib.hid ho
    have HX := Lib.hid hX
    have HS := Lib.hid hS
    have HA := Lib.hid ha
    rw [fiveD_drop] at hF
    clear hr hrk hT hD ho hX hS ha
    rcases hd : rest1.dropWhile whiteS with _ | ⟨c, t⟩
    · rw [hd, fiveD_nil] at hF
      have HDr := Lib.hid hd
      have HF := Lib.hid hF
      clear hd hF
      go_wp2_with fail
      refine (vis_no B g r1 rest1 o m _ HDr.out HD.out).mono ?_
      rintro e w1 ⟨rfl, ht⟩
      refine ⟨rfl, ?_⟩
      exact end_no HR.out HT.out ht HF.out (by decide)
    · rw [hd] at hF
      have hw := drop_white hd
      have HDr := Lib.hid hd
      have HLn := Lib.hid (drop_len _ hd)
      by_cases hz : c = 122 ∧ n = 0
      · obtain ⟨rfl, rfl⟩ := hz
        rw [List.take_zero, fiveD_zeros] at hF
        have HF := Lib.hid hF
        clear hd hF hw
        go_wp2_with fail
        refine (vis_ok B g r1 rest1 o m _ 122 t HDr.out HD.out).mono ?_
        rintro e w1 ⟨rfl, hd1, ht⟩
        have HD1 := Lib.hid hd1
        have HT1 := Lib.hid ht
        clear hd1 ht
        go_wp2_with fail
        by_cases hfull : m < o.length + 4
        · have HF2 := Lib.hid (HF.out.trans (if_pos hfull))
          refine (put_blk_no hm HO.out HD1.out hfull).mono ?_
          rintro e w2 ⟨rfl, ht⟩
          refine ⟨rfl, ?_⟩
          exact end_no HR.out HT.out (HT1.out.trans ht (.inl rfl)) HF2.out (by decide)
        · have HF2 := Lib.hid (HF.out.trans (if_neg hfull))
          refine (put_blk_ok (l := [0, 0, 0, 0]) (Nat.le_trans hB (Nat.le_trans HT.out.size HT1.out.size)) hm HD1.out hfull (by decide) (by decide) rfl).mono ?_
          rintro e w2 ⟨rfl, hp⟩
          obtain ⟨r2, k1, k2, k3, k4, k5, k6⟩ := five_next HR.out HRK.out HT.out HS.out HX.out HG.out.1 (Put.then (.inl rfl) HT1.out hp)
          have HN := Lib.hid (show FiveTo B w g r m F 0 w2 from ⟨r2, t, o ++ [0, 0, 0, 0], a, k1, k2, k3, k4, by rw [List.length_append]; simp; omega, HA.out, by omega, k5, k6, HF2.out⟩)
          have HN2 := Lib.hid (dec_rest k3)
          clear hp k1 k2 k3 k4 k5 k6 HF2
          go_wp2_with fail
          go_roundw
          case rel => exact ⟨0, rfl, HN.out⟩
          case measure => rw [HM.out, HN2.out]; exact HLn.out
      · by_cases hdg : 33 ≤ c.toNat ∧ c.toNat ≤ 117
        · have h122 : ((c.toNat : Int) == 122) = false := asc_ne (fun e => by rw [e] at hdg; exact absurd hdg.2 (by decide))
          have hg1 : (33 : Int) ≤ (c.toNat : Int) := by omega
          have hg2 : (c.toNat : Int) ≤ 117 := by omega
          rw [fiveD_digit _ hdg.1 hdg.2] at hF
          have hal : (a.take n).length = n := by rw [List.length_take, HA.out]; omega
          obtain ⟨y, hy⟩ : ∃ y : Int, (cellsOf a).toArray[n]? = some (.int .u8 y) := by
            have hnl : n < a.length := by rw [HA.out]; omega
            refine ⟨(a[n].toNat : Int), ?_⟩
            unfold cellsOf
            rw [List.getElem?_toArray, List.getElem?_map, List.getElem?_eq_getElem hnl]
            rfl
          have hsub : ((c - 33 : UInt8).toNat : Int) = (c.toNat : Int) - 33 := by rw [UInt8.toNat_sub]; have := c.toNat_lt; show (((256 - 33 + c.toNat) % 256 : Nat) : Int) = _; omega
          have hset : (a.set n (c - 33)).take (n + 1) = a.take n ++ [c - 33] := by
            rw [List.take_set, take_more (by rw [HA.out]; omega), List.set_append_right _ _ (by omega), hal, Nat.sub_self]
            rfl
          have HSub := Lib.hid hsub
          have HSet := Lib.hid hset
          have HY := Lib.hid hy
          have HF := Lib.hid hF
          have HAL := Lib.hid hal
          have j0 : (0 : Int) ≤ (n : Int) := by omega
          have j1 : (n : Int) < 5 := by omega
          clear hd hF hw hsub hset hy hal hz
          go_wp2_with fail
          refine (vis_ok B g r1 rest1 o m _ c t HDr.out HD.out).mono ?_
          rintro e w1 ⟨rfl, hd1, ht⟩
          have hX1 := ht.blk HX.out (by have := HG.out.1; omega) (fun e => HRK.out e.symm)
          have x : w1.cell? ⟨w.heap.size, n, none⟩ = some (.int .u8 y) := (hX1.cell n).trans HY.out
          have f := hX1.frozen n
          have HX1 := Lib.hid hX1
          have HD1 := Lib.hid hd1
          have HT1 := Lib.hid ht
          clear hd1 ht hX1
          by_cases hn3 : n < 4
          · have hn5 : ((n : Int) + 1 == 5) = false := by simp; omega
            have HD2 := Lib.hid (HD1.out.far (k := w.heap.size) (by have := HG.out.1; omega) HRK.out n (.int .u8 ((c.toNat : Int) - 33)))
            have HT2 := Lib.hid ((HT.out.trans HT1.out HR.out).row (k := w.heap.size) (.inr (Nat.le_refl _)) n (.int .u8 ((c.toNat : Int) - 33)))
            have hX2 := HX1.out.set_ n (.int .u8 ((c.toNat : Int) - 33))
            rw [← HSub.out, cells_set, HSub.out] at hX2
            have HX2 := Lib.hid hX2
            have HF2 := Lib.hid (HF.out.trans (if_pos (by rw [HAL.out]; exact hn3)))
            clear hX2
            go_wp2_with fail
            go_roundw
            case rel => exact ⟨n + 1, by go_num, r1, t, o, a.set n (c - 33), HR.out, HRK.out, HD2.out, HT2.out, HO.out, by rw [List.length_set]; exact HA.out, by omega, HX2.out, by have h1 := HS.out; have h2 := HT1.out.size; simp [World.setCell]; omega, by rw [HSet.out]; exact HF2.out⟩
            case measure => rw [HM.out, dec_rest HD2.out]; exact HLn.out
          · obtain rfl : n = 4 := by omega
            have hF2 := HF.out.trans (if_neg (by rw [HAL.out]; omega))
            obtain ⟨a0, a1, a2, a3, a4, rfl⟩ : ∃ a0 a1 a2 a3 a4, a = [a0, a1, a2, a3, a4] := by
              match a, HA.out with
              | [a, b, c, d, e], _ => exact ⟨a, b, c, d, e, rfl⟩
            obtain ⟨z, hz⟩ : ∃ z : UInt8, c - 33 = z := ⟨_, rfl⟩
            have hzs : (z.toNat : Int) = (c.toNat : Int) - 33 := by rw [← hz]; exact HSub.out
            rw [hz] at hF2
            rw [show [a0, a1, a2, a3, a4].take 4 ++ [z] = [a0, a1, a2, a3, z] from rfl] at hF2
            have HD2 := Lib.hid (HD1.out.far (k := w.heap.size) (by have := HG.out.1; omega) HRK.out 4 (.int .u8 ((c.toNat : Int) - 33)))
            have HT2 := Lib.hid ((HT.out.trans HT1.out HR.out).row (k := w.heap.size) (.inr (Nat.le_refl _)) 4 (.int .u8 ((c.toNat : Int) - 33)))
            have HS2 := Lib.hid (show w.heap.size < (w1.setCell ⟨w.heap.size, 4, none⟩ (.int .u8 ((c.toNat : Int) - 33))).heap.size by have h1 := HS.out; have h2 := HT1.out.size; simp [World.setCell]; omega)
            have hX2 := HX1.out.set_ 4 (.int .u8 ((c.toNat : Int) - 33))
            rw [← hzs] at hX2
            have HZ := Lib.hid hzs
            have hX3 : Blk (w1.setCell ⟨w.heap.size, 4, none⟩ (.int .u8 (z.toNat : Int))) w.heap.size 53 #[.int .u8 (a0.toNat : Int), .int .u8 (a1.toNat : Int), .int .u8 (a2.toNat : Int), .int .u8 (a3.toNat : Int), .int .u8 (z.toNat : Int)] := hX2
            rw [hzs] at hX3
            have HX3 := Lib.hid hX3
            obtain ⟨V, hV⟩ : ∃ V, val5 [a0, a1, a2, a3, z] = V := ⟨_, rfl⟩
            rw [hV] at hF2
            have HV := Lib.hid (show v5 [a0, a1, a2, a3, z] = V from hV)
            have HF2 := Lib.hid hF2
            clear hX2 hX3 hV hz hzs hF2
            go_upto_region 10 with fail
            obtain ⟨w2, hw2⟩ : ∃ w2, w1.setCell ⟨w.heap.size, 4, none⟩ (.int .u8 ((c.toNat : Int) - 33)) = w2 := ⟨_, rfl⟩
            rw [hw2] at HD2 HT2 HX3 HS2 ⊢
            have c0 : w2.cell? ⟨w.heap.size, 0, none⟩ = some (.int .u8 (a0.toNat : Int)) := HX3.out.cell 0
            have c1 : w2.cell? ⟨w.heap.size, 1, none⟩ = some (.int .u8 (a1.toNat : Int)) := HX3.out.cell 1
            have c2 : w2.cell? ⟨w.heap.size, 2, none⟩ = some (.int .u8 (a2.toNat : Int)) := HX3.out.cell 2
            have c3 : w2.cell? ⟨w.heap.size, 3, none⟩ = some (.int .u8 (a3.toNat : Int)) := HX3.out.cell 3
            have c4 : w2.cell? ⟨w.heap.size, 4, none⟩ = some (.int .u8 ((c.toNat : Int) - 33)) := HX3.out.cell 4
            have harr : arr5 [a0, a1, a2, a3, z] = .agg #[.int .u8 (a0.toNat : Int), .int .u8 (a1.toNat : Int), .int .u8 (a2.toNat : Int), .int .u8 (a3.toNat : Int), .int .u8 ((c.toNat : Int) - 33)] := by rw [← HZ.out]; rfl
            have HAr := Lib.hid harr
            clear hw2 x f harr
            by_cases hv : 4294967295 < V
            · have HF3 := Lib.hid (HF2.out.trans (if_pos hv))
              go_wp2_with fail
              rw [← HAr.out]
              refine (bytesOf_no _ V _ rfl HV.out hv).mono ?_
              rintro e w3 ⟨rfl, hb⟩
              refine ⟨rfl, ?_⟩
              exact end_no (.inl rfl) (Two.refl _ _ _) (HT2.out.trans (below_two hb) HR.out) HF3.out (by decide)
            · have hF3 := HF2.out.trans (if_neg hv)
              obtain ⟨b0, b1, b2, b3, hb4⟩ : ∃ b0 b1 b2 b3, bytes4 V = [b0, b1, b2, b3] := ⟨_, _, _, _, rfl⟩
              have hb5 : arr5 (bytes4 V) = .agg #[.int .u8 (b0.toNat : Int), .int .u8 (b1.toNat : Int), .int .u8 (b2.toNat : Int), .int .u8 (b3.toNat : Int)] := by rw [hb4]; rfl
              rw [hb4] at hF3
              have HB5 := Lib.hid hb5
              have HF3 := Lib.hid hF3
              clear hF3 hb4 hb5
              go_wp2_with fail
              rw [← HAr.out]
              refine (bytesOf_in _ V _ rfl HV.out (by omega)).mono ?_
              rintro e w3 ⟨rfl, hb⟩
              rw [HB5.out]
              have HD3 := Lib.hid (Dec.below HD2.out hb)
              have HT3 := Lib.hid (HT2.out.trans (below_two hb) HR.out)
              have HX4 := Lib.hid (HX3.out.below hb HS2.out)
              have HS3 := Lib.hid (Nat.lt_of_lt_of_le HS2.out hb.size)
              clear hb
              go_wp2_with fail
              by_cases hfull : m < o.length + 4
              · have HF4 := Lib.hid (HF3.out.trans (if_pos hfull))
                refine (put_blk_no hm HO.out HD3.out hfull).mono ?_
                rintro e w4 ⟨rfl, ht⟩
                refine ⟨rfl, ?_⟩
                exact end_no HR.out HT3.out ht HF4.out (by decide)
              · have HF4 := Lib.hid (HF3.out.trans (if_neg hfull))
                refine (put_blk_ok (l := [b0, b1, b2, b3]) (Nat.le_trans hB HT3.out.size) hm HD3.out hfull (by decide) (by simp) rfl).mono ?_
                rintro e w4 ⟨rfl, hp⟩
                obtain ⟨r2, k1, k2, k3, k4, k5, k6⟩ := five_next HR.out HRK.out HT3.out HS3.out HX4.out HG.out.1 hp
                have HN := Lib.hid (show FiveTo B w g r m F 0 w4 from ⟨r2, t, o ++ [b0, b1, b2, b3], [a0, a1, a2, a3, z], k1, k2, k3, k4, by rw [List.length_append]; simp; omega, rfl, by omega, by rw [← HZ.out] at k5; exact k5, k6, HF4.out⟩)
                have HN2 := Lib.hid (dec_rest k3)
                clear hp k1 k2 k3 k4 k5 k6
                go_wp2_with fail
                go_roundw
                case rel => exact ⟨0, rfl, HN.out⟩
                case measure => rw [HM.out, HN2.out]; exact HLn.out
        · by_cases h126 : c = 126
          · subst h126
            rcases t with _ | ⟨d, u⟩
            · rw [fiveD_cut] at hF
              have HF := Lib.hid hF
              clear hd hF hw
              go_wp2_with fail
              refine (vis_ok B g r1 rest1 o m _ 126 [] HDr.out HD.out).mono ?_
              rintro e w1 ⟨rfl, hd1, ht⟩
              have HD1 := Lib.hid hd1
              have HT1 := Lib.hid ht
              clear hd1 ht
              go_wp2_with fail
              go_region_dies
              all_goals
                refine (dtake_no B g r1 o m _ (by exact HD1.out)).mono ?_
                rintro e w2 ⟨rfl, rfl⟩
                refine ⟨rfl, ?_⟩
                exact end_no HR.out HT.out (HT1.out.drewN _) HF.out (by decide)
            · rw [fiveD_end] at hF
              by_cases hd62 : d = 62
              · subst hd62
                have HF := Lib.hid (hF.trans (if_pos rfl))
                clear hd hF hw
                go_wp2_with fail
                refine (vis_ok B g r1 rest1 o m _ 126 (62 :: u) HDr.out HD.out).mono ?_
                rintro e w1 ⟨rfl, hd1, ht⟩
                have HD1 := Lib.hid hd1
                have HT1 := Lib.hid ht
                clear hd1 ht
                go_wp2_with fail
                have hcut : (ByteArray.mk #[126, 62]).extract 1 2 = ⟨#[62]⟩ := by kernel_rfl
                go_region_held3 (fun _ => True) (first | exact trivial) ((go_at_call 42; refine (dtake_one B g r1 62 u o m _ (by exact HD1.out)).mono ?_; rintro e w2 ⟨rfl, hd2, ht2⟩))
                have HD2 := Lib.hid hd2
                have HT2 := Lib.hid (two_of_drew ht2)
                have hX2 := (HT1.out.trans HT2.out (.inl rfl)).blk HX.out (by have := HG.out.1; omega) (fun e => HRK.out e.symm)
                obtain ⟨a0, a1, a2, a3, a4, rfl⟩ : ∃ a0 a1 a2 a3 a4, a = [a0, a1, a2, a3, a4] := by
                  match a, HA.out with
                  | [a, b, c, d, e], _ => exact ⟨a, b, c, d, e, rfl⟩
                have c0 : w2.cell? ⟨w.heap.size, 0, none⟩ = some (.int .u8 (a0.toNat : Int)) := hX2.cell 0
                have c1 : w2.cell? ⟨w.heap.size, 1, none⟩ = some (.int .u8 (a1.toNat : Int)) := hX2.cell 1
                have c2 : w2.cell? ⟨w.heap.size, 2, none⟩ = some (.int .u8 (a2.toNat : Int)) := hX2.cell 2
                have c3 : w2.cell? ⟨w.heap.size, 3, none⟩ = some (.int .u8 (a3.toNat : Int)) := hX2.cell 3
                have c4 : w2.cell? ⟨w.heap.size, 4, none⟩ = some (.int .u8 (a4.toNat : Int)) := hX2.cell 4
                clear hd2 ht2 hX2
                go_wp2_with fail
                refine (last_in B g r1 u o m [a0, a1, a2, a3, a4] n w2 (Nat.le_trans hB (Nat.le_trans (Nat.le_trans HT.out.size HT1.out.size) HT2.out.size)) hm HO.out rfl hn4 F HF.out HD2.out).mono ?_
                rintro e w3 he
                have HE := Lib.hid (he.then HR.out (HT.out.trans (HT1.out.trans HT2.out (.inl rfl)) HR.out))
                clear he
                rcases HE.out with ⟨_, rfl, _⟩ | ⟨_, rfl, _⟩
                · go_wp2_with fail
                  go_end0
                  exact HE.out
                · exact ⟨rfl, HE.out⟩
              · have hd62' : (d == 62) = false := by simpa using hd62
                have HF := Lib.hid (hF.trans (if_neg hd62))
                clear hd hF hw
                go_wp2_with fail
                refine (vis_ok B g r1 rest1 o m _ 126 (d :: u) HDr.out HD.out).mono ?_
                rintro e w1 ⟨rfl, hd1, ht⟩
                have HD1 := Lib.hid hd1
                have HT1 := Lib.hid ht
                clear hd1 ht
                go_wp2_with fail
                have hcut : (ByteArray.mk #[126, 62]).extract 1 2 = ⟨#[62]⟩ := by kernel_rfl
                go_region_held3 (fun _ => True) (first | exact trivial) ((go_at_call 42; refine (dtake_one B g r1 d u o m _ (by exact HD1.out)).mono ?_; rintro e w2 ⟨rfl, hd2, ht2⟩))
                have HT2 := Lib.hid (two_of_drew ht2)
                clear hd2 ht2
                go_wp2_with fail
                refine (up_any _ _).mono ?_
                rintro e w3 ⟨rfl, rfl⟩
                refine ⟨rfl, ?_⟩
                exact end_no HR.out HT.out (HT1.out.trans HT2.out (.inl rfl)) HF.out (by decide)
          · have h126' : ((c.toNat : Int) == 126) = false := asc_ne h126
            rw [fiveD_bad _ hw h126 (fun e => hz ⟨e.1, by have := congrArg List.length e.2; rw [List.length_take, HA.out] at this; simp at this; omega⟩) hdg] at hF
            have HF := Lib.hid hF
            clear hd hF hw
            by_cases h122 : c = 122
            · subst h122
              have hn0 : ((n : Int) == 0) = false := beq_eq_false_iff_ne.2 fun e => hz ⟨rfl, by omega⟩
              clear hz hdg
              go_wp2_with fail
              refine (vis_ok B g r1 rest1 o m _ 122 t HDr.out HD.out).mono ?_
              rintro e w1 ⟨rfl, hd1, ht⟩
              have HT1 := Lib.hid ht
              clear hd1 ht
              go_wp2_with fail
              refine (up_any _ _).mono ?_
              rintro e w3 ⟨rfl, rfl⟩
              refine ⟨rfl, ?_⟩
              exact end_no HR.out HT.out HT1.out HF.out (by decide)
            · have h122' : ((c.toNat : Int) == 122) = false := asc_ne h122
              by_cases h33 : (33 : Int) ≤ (c.toNat : Int)
              · have h117 : ¬ (c.toNat : Int) ≤ 117 := fun h => hdg ⟨by omega, by omega⟩
                clear hz hdg
                go_wp2_with fail
                refine (vis_ok B g r1 rest1 o m _ c t HDr.out HD.out).mono ?_
                rintro e w1 ⟨rfl, hd1, ht⟩
                have HT1 := Lib.hid ht
                clear hd1 ht
                go_wp2_with fail
                refine (up_any _ _).mono ?_
                rintro e w3 ⟨rfl, rfl⟩
                refine ⟨rfl, ?_⟩
                exact end_no HR.out HT.out HT1.out HF.out (by decide)
              · clear hz hdg
                go_wp2_with fail
                refine (vis_ok B g r1 rest1 o m _ c t HDr.out HD.out).mono ?_
                rintro e w1 ⟨rfl, hd1, ht⟩
                have HT1 := Lib.hid ht
                clear hd1 ht
                go_wp2_with fail
                refine (up_any _ _).mono ?_
                rintro e w3 ⟨rfl, rfl⟩
                refine ⟨rfl, ?_⟩
                exact end_no HR.out HT.out HT1.out HF.out (by decide)
end Go.Proofs.Ytgfohfgallojkaa
