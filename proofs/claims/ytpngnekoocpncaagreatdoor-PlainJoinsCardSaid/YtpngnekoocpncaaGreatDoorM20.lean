/-
  Lemmas and walks, joined: RowEnd, RowKeep, PlnRow, PlnRd.
-/
import Derived.Test.YtpngnekoocpncaaGreatDoorRows
import Derived.ProofKit
import Derived.Below
import Derived.ChangeSame
import Derived.Carry
import Derived.Test.YtpngnekoocpncaaGreatDoorM17
import Derived.Test.YtpngnekoocpncaaGreatDoorM18
import Derived.Test.YtpngnekoocpncaaGreatDoorM19
import Derived.Test.YtpngnekoocpncaaGreatDoorCards
import Derived.Test.YtpngnekoocpncaaGreatDoorTie
import Derived.OpenShut
import Derived.SliceStrings
import Derived.Deep.DeepHandedRow
import Derived.Lib.LaidTab
import Derived.Lay
import Derived.Stop.LaidErr
import Derived.Test.YtpngnekoocpncaaGreatDoorM16
namespace Go.Proofs.YtpngnekoocpncaaGreatDoor
open Go.WideShapes Go.ChangeShapes Go.RowKit

/-- Arguments and variables that lead to no memory, and a world that agrees with the old one below its size. -/
theorem post_new {H : Type} {enc : TypeId × Value → H} {P : Program} {f : Func} {s : ChangeSpec} {apart fresh handsOn again : Bool} {W W' : World} {args : Array Value} {v : Value} {ds gs : List (DataW H)}
    (whole : DataW.Whole enc P f.params.toList s.vars apart W args.toList ds gs [])
    (results : ∀ (b : Nat) (sp : Nat → Bool) (hd : Bool), DataW.TrodAll enc P W' b sp hd f.resultTypes.toList (v.resultList f.resultTypes.size) (s.fn H (ds ++ gs)).results [])
    (arguments : ∀ sp : Nat → Bool, DataW.TrodAll enc P W' 0 sp true f.params.toList args.toList (s.fn H (ds ++ gs)).args [])
    (variables : ∀ sp : Nat → Bool, DataW.TrodVars enc P W' sp s.vars (s.fn H (ds ++ gs)).vars [])
    (below : Below W.heap.size W W')
    (ok : ∀ (j : Nat) (t : TypeId) (r : Value), f.resultTypes[j]? = some t → (v.resultList f.resultTypes.size)[j]? = some r → Value.okWide P W' .any 0 t r) :
    s.post enc P f apart fresh handsOn again W args v W' := by
  have kept : W.keptBut W' (fun p => p ∈ ([] : List MemPlace) ∧ p ∈ [] ++ ([] ++ [])) := below.frame _
  have both := trodAll_append (arguments fun _ => true) (results 0 (fun _ => true) true)
  refine ⟨ds, gs, [], [], [], [], whole, results _ _ _, arguments _, variables _, ?_, fun _ => ⟨ok, _, _, [], ⟨[], [], both, variables _, rfl, fun b off h => ?_, fun h => ?_⟩, ?_⟩⟩
  · exact World.keptBut_mono (fun p hp => ⟨hp.1, by cases hp.1⟩) kept
  · cases h
  · exact List.nodup_nil
  · intro p hp
    cases hp
end Go.Proofs.YtpngnekoocpncaaGreatDoor
namespace Go.Proofs.YtpngnekoocpncaaGreatDoor
open Go.WideShapes Go.ChangeShapes Go.ChangeAt Go.RowKit

theorem trodAll_keeps {H : Type} {enc : TypeId × Value → H} {P : Program} (hl : laidOutB P = true) {W W' : World} {sp : Nat → Bool} :
    ∀ {ts : List TypeId} {vs : List Value} {ds : List (DataW H)} {ps : List MemPlace}, (∀ t ∈ ts, P.readableRec t = true ∧ t < P.types.size) → DataW.TrodAll enc P W 0 (fun _ => true) true ts vs ds ps →
      (∀ p ∈ ps, W.sameAt W' p) → (∀ p ∈ ps, sp p.block = true) → DataW.TrodAll enc P W' 0 sp true ts vs ds ps
  | [], [], [], _, _, h, _, _ => h
  | t :: _, _ :: _, _ :: _, _, hT, ⟨p, q, h1, h2, e⟩, hsame, hs =>
    ⟨p, q, WideElems.Trod_stays hl (hT t (List.mem_cons.2 (Or.inl rfl))).1 (hT t (List.mem_cons.2 (Or.inl rfl))).2 h1 (fun x hx => hsame x (by rw [e]; exact List.mem_append_left _ hx)) (fun x hx => hs x (by rw [e]; exact List.mem_append_left _ hx)),
      trodAll_keeps hl (fun u hu => hT u (List.mem_cons.2 (Or.inr hu))) h2 (fun x hx => hsame x (by rw [e]; exact List.mem_append_right _ hx)) (fun x hx => hs x (by rw [e]; exact List.mem_append_right _ hx)), e⟩

/-- A law's post: it answers one bool, true; no variable is part of its specification; each argument reads as before. -/
theorem post_keep {H : Type} {enc : TypeId × Value → H} {P : Program} {f : Func} {s : ChangeSpec} {apart fresh handsOn again : Bool} {W W' : World} {args : Array Value} {ds gs : List (DataW H)} {before : List MemPlace} {tb : TypeId}
    (hl : laidOutB P = true) (hts : ∀ t ∈ f.params.toList, P.readableRec t = true ∧ t < P.types.size) (hv0 : s.vars = [])
    (hW : DataW.Whole enc P f.params.toList s.vars apart W args.toList ds gs before)
    (hfn : ∀ ds' : List (DataW H), ds'.length = f.params.size → s.fn H ds' = { results := [.lit (.bool true)], args := ds' })
    (hres : f.resultTypes = #[tb]) (htb : P.underlying tb = some .bool) (hb : Below W.heap.size W W') :
    s.post enc P f apart fresh handsOn again W args (.bool true) W' := by
  have hlt : ∀ p ∈ before, p.block < W.heap.size := fun p hp => hW.lt p hp
  have hsame : ∀ p ∈ before, W.sameAt W' p := fun p hp => hb.same (hlt p hp)
  have hW0 := hW
  obtain ⟨p, q, hA, hV, hbf, hz, hn⟩ := hW
  rw [hv0] at hV
  obtain ⟨rfl, rfl⟩ := trodVars_none hV
  have hlen : ds.length = f.params.size := by
    have hh : ∀ {ts : List TypeId} {vs : List Value} {ds : List (DataW H)} {ps : List MemPlace}, DataW.TrodAll enc P W 0 (fun _ => true) true ts vs ds ps → ds.length = ts.length := by
      intro ts
      induction ts with
      | nil => intro vs ds ps h; cases vs <;> cases ds <;> simp_all [DataW.TrodAll]
      | cons t ts ih =>
        intro vs ds ps h
        cases vs with
        | nil => cases h
        | cons v vs => cases ds with
          | nil => cases h
          | cons d ds =>
            obtain ⟨_, _, _, h2, _⟩ := h
            simp [ih h2]
    have := hh hA
    simpa using this
  rw [List.append_nil] at hbf
  have hspec : s.fn H (ds ++ []) = { results := [.lit (.bool true)], args := ds } := by rw [List.append_nil]; exact hfn ds hlen
  have hargs : ∀ sp : Nat → Bool, (∀ x ∈ before, sp x.block = true) → DataW.TrodAll enc P W' 0 sp true f.params.toList args.toList ds before := fun sp hsp => by
    rw [hbf] at hsame hsp ⊢
    exact trodAll_keeps hl hts hA hsame hsp
  have hold : ∀ x ∈ before, (fun b => decide (b < W.heap.size)) x.block = true := fun x hx => by simpa using hlt x hx
  have hresults : ∀ (b : Nat) (sp : Nat → Bool) (hd : Bool), DataW.TrodAll enc P W' b sp hd f.resultTypes.toList ((Value.bool true).resultList f.resultTypes.size) [.lit (.bool true)] [] := fun _ _ _ => by
    rw [hres]
    exact trodAll_mk1 (shut_bool htb _)
  have hvars : ∀ sp : Nat → Bool, DataW.TrodVars enc P W' sp s.vars ([] : List (DataW H)) [] := fun sp => by rw [hv0]; exact rfl
  have hresults2 : ∀ (b : Nat) (sp : Nat → Bool) (hd : Bool), DataW.TrodAll enc P W' b sp hd f.resultTypes.toList ((Value.bool true).resultList f.resultTypes.size) (s.fn H (ds ++ [])).results [] := by rw [hspec]; exact hresults
  have hargs2 : ∀ sp : Nat → Bool, (∀ x ∈ before, sp x.block = true) → DataW.TrodAll enc P W' 0 sp true f.params.toList args.toList (s.fn H (ds ++ [])).args before := by rw [hspec]; exact hargs
  have hvars2 : ∀ sp : Nat → Bool, DataW.TrodVars enc P W' sp s.vars (s.fn H (ds ++ [])).vars [] := by rw [hspec]; exact hvars
  refine ⟨ds, [], before, [], before, [], hW0, hresults2 _ _ _, hargs2 _ hold, hvars2 _, World.keptBut_mono (fun x hx => ⟨hx, ?_⟩) (hb.frame (· ∈ before)), fun _ => ?_⟩
  · simpa using hx
  · refine ⟨ok_one (by rw [hres]) rfl (okWide_bool_mk htb _), _, _, ([] ++ before) ++ [], ⟨[] ++ before, [], trodAll_append (hargs2 _ (fun _ _ => rfl)) (hresults2 _ _ _), hvars2 _, rfl, ?_, ?_⟩, ?_⟩
    · intro b off hp
      have hin : MemPlace.cell b off ∈ before := by simpa using hp
      rw [hb.frozen (hlt _ hin)]
      exact hz b off hin
    · intro ha
      simpa using hn ha
    · intro x hx _
      simpa using hx
end Go.Proofs.YtpngnekoocpncaaGreatDoor
namespace Go.Proofs.YtpngnekoocpncaaGreatDoor
open Go.ChangeShapes Go.WideShapes Go.ChangeAt Go.RowKit Oct Fix Lex

def PLive (w : World) : Prop := MaxLenAt w ∧ Tab10 w
theorem PLive.below {B : Nat} {w w' : World} (h : PLive w) (hb : Below B w w') (hB : w.heap.size ≤ B) : PLive w' := ⟨h.1.upto hb hB, tab10_below h.2 hb hB⟩

theorem own : ownKnob Tryz.prog.godebug = none := by kernel_rfl
theorem gPow : Tryz.prog.globalNamed "internal/strconv.uint64pow10" = some 0 := by kernel_rfl
theorem gPowType : (Tryz.prog.globals[0]?).map (·.type) = some 111 := by kernel_rfl
theorem cellsPow : Tryz.prog.cellsOf 111 = 20 := by kernel_rfl
theorem cellsU64 : Tryz.prog.cellsOf 82 = 1 := by kernel_rfl

theorem live_of {W : World} (h : laidMet Tryz.prog [("math/bits.deBruijn32tab", Rows.laid_math_bits_deBruijn32tab), ("math/bits.deBruijn64tab", Rows.laid_math_bits_deBruijn64tab), ("internal/strconv.uint64pow10", Rows.laid_internal_strconv_uint64pow10), ("unicode/utf8.acceptRanges", Rows.laid_unicode_utf8_acceptRanges), ("unicode/utf8.first", Rows.laid_unicode_utf8_first)] W) (hsh : W.ShapedOpen Tryz.prog) : PLive W := by
  refine ⟨Tryz.laysM145.s1_3 W hsh, ?_⟩
  have h2 : laidMet Tryz.prog (("internal/strconv.uint64pow10", Lib.tabData .u64 Lib.pow10Tab) :: [("unicode/utf8.acceptRanges", Rows.laid_unicode_utf8_acceptRanges), ("unicode/utf8.first", Rows.laid_unicode_utf8_first)]) W := (laidMet.tail (laidMet.tail h))
  exact Lib.tabIs_of_head gPow gPowType Tryz.underlying111 Tryz.underlying82 cellsU64 cellsPow h2

/-- A world for the witness: the settled one, the listed variables holding what their initialisers lay. -/
noncomputable def laidWorld (os : Os) : World := World.laidAll Tryz.prog os [("math/bits.deBruijn32tab", Rows.laid_math_bits_deBruijn32tab), ("math/bits.deBruijn64tab", Rows.laid_math_bits_deBruijn64tab), ("internal/strconv.uint64pow10", Rows.laid_internal_strconv_uint64pow10), ("unicode/utf8.acceptRanges", Rows.laid_unicode_utf8_acceptRanges), ("unicode/utf8.first", Rows.laid_unicode_utf8_first)]
theorem laid_met (os : Os) (args : Array Value) : laidMet Tryz.prog [("math/bits.deBruijn32tab", Rows.laid_math_bits_deBruijn32tab), ("math/bits.deBruijn64tab", Rows.laid_math_bits_deBruijn64tab), ("internal/strconv.uint64pow10", Rows.laid_internal_strconv_uint64pow10), ("unicode/utf8.acceptRanges", Rows.laid_unicode_utf8_acceptRanges), ("unicode/utf8.first", Rows.laid_unicode_utf8_first)] ((laidWorld os).forCall (fun _ _ => 0) ⟨#[], args, []⟩).memory :=
  laidMet_laidAll args (by kernel_rfl) (by kernel_rfl)

/-- A slice of strings that came in. -/
theorem strs_of {H : Type} {enc : TypeId × Value → H} {W : World} {base : Nat} {spare : Nat → Bool} {held : Bool} {A : Option Addr} {len cap : Nat} {d : DataW H} {p : List MemPlace}
    (h : DataW.Trod enc Tryz.prog W base spare held 29 (.slice A len cap) d p) : ∃ ps : List ByteArray, ps.length = len ∧ Strs W A ps := by
  obtain ⟨fu, hf⟩ := h
  rcases open_strings Tryz.underlying29 Tryz.underlying9 (by kernel_rfl) hf with ⟨hcs, _⟩ | ⟨ad, len', cap', ss, hcs, _, hl, hm, hz, _, hcell, _⟩
  · simp [Value.cells] at hcs
    obtain ⟨rfl, rfl, rfl⟩ := hcs
    exact ⟨[], rfl, fun j hj => absurd hj (Nat.not_lt_zero _)⟩
  · simp [Value.cells] at hcs
    obtain ⟨rfl, rfl, rfl⟩ := hcs
    have hz' : len ≤ ss.length := by rw [hz]; split <;> omega
    refine ⟨ss.take len, by rw [List.length_take]; omega, fun j hj => ?_⟩
    have hj' : j < len := by rw [List.length_take] at hj; omega
    have h0 := hcell 0 (by omega)
    obtain ⟨b, off, spot⟩ := ad
    have hspot : spot = none := by simpa [Addr.add] using World.cell?_spot h0
    subst hspot
    have hb : b < W.heap.size := World.block_lt_of_cell? W _ (by simpa [Addr.add] using h0)
    have g0 := hcell j (by omega)
    rw [Go.WideShapes.add_plain] at g0
    refine ⟨b, off, rfl, hb, g0.trans ?_⟩
    have e : ss.getD j ByteArray.empty = (ss.take len)[j] := by
      rw [List.getElem_take, List.getD_eq_getElem?_getD, List.getElem?_eq_getElem (by omega)]
      rfl
    rw [e]
end Go.Proofs.YtpngnekoocpncaaGreatDoor
namespace Go.Proofs.YtpngnekoocpncaaGreatDoor
open Go.RowKit Oct Fix Lex

theorem next_whole (J s : ByteArray) (k v : Int) (n : Nat) (w : World) (hm : MaxLenAt w) (hz : J.size ≤ 100000) (hn : n = J.size) (hW : WholeT J.data.toList ⟨0, k, n, v, s.data.toList⟩) :
    Calls Tryz.prog 12 #[.string J, .int .i64 0] w fun e w' => e = .returned (.tuple #[.agg #[.int .i64 k, .int .i64 0, .int .i64 (J.size : Int), .int .i64 v, .string s], .int .i64 0]) ∧ Below w.heap.size w w' := by
  obtain ⟨h1, h2⟩ := whole_next hW
  have h := lexNext_any J 0 w hz hm
  have hi : nxI J.data.toList 0 = 0 := h1
  have hR : nxR J.data.toList 0 = ⟨0, k, n, v, s.data.toList⟩ := by unfold nxR; rw [if_neg (by omega)]; exact h2
  rw [hi, hR] at h
  refine h.mono fun e w' ⟨e1, e2⟩ => ⟨e1.trans ?_, e2⟩
  have : tT 0 (⟨0, k, n, v, s.data.toList⟩ : TR) = (J.size : Int) := by
    unfold tT
    rw [if_pos rfl]
    push_cast
    omega
  rw [this]
  rfl

set_option maxRecDepth 100000 in
set_option maxHeartbeats 4000000 in
theorem one_any (J s : ByteArray) (k v : Int) (n : Nat) (w : World) (hm : MaxLenAt w) (hz : J.size ≤ 100000) (hn : n = J.size) (hW : WholeT J.data.toList ⟨0, k, n, v, s.data.toList⟩) :
    Calls Tryz.prog 11 #[.string J, .int .i64 k, .int .i64 v, .string s] w fun e w' => e = .returned (.bool true) ∧ Below w.heap.size w w' := by
  have HC := Lib.hid (fun W hm => next_whole J s k v n W hm hz hn hW)
  have HM := Lib.hid hm
  clear hW hm hn
  go_enter Tryz.func11, Tryz.ntmps11
  go_wp2_with fail
  refine (HC.out _ HM.out).mono ?_
  rintro e v1 ⟨rfl, hb⟩
  go_upto_region 2 with (fail)
  obtain ⟨w1, hw1⟩ : ∃ w1, v1.alloc (.cells #[.int .i64 k, .int .i64 0, .int .i64 (J.size : Int), .int .i64 v, .string s] 31) = w1 := ⟨_, rfl⟩
  have hX : Blk w1 v1.heap.size 31 #[.int .i64 k, .int .i64 0, .int .i64 (J.size : Int), .int .i64 v, .string s] := by rw [← hw1]; exact Blk.new _ _ _
  have HB1 := Lib.hid (show Below w.heap.size w w1 by rw [← hw1]; exact hb.alloc hb.size _)
  rw [hw1]
  clear hw1 hb
  obtain ⟨g1, hg1⟩ : ∃ g1, v1.heap.size = g1 := ⟨_, rfl⟩
  rw [hg1] at hX
  simp only [hg1]
  clear hg1
  have c0 := hX.cell 0
  have c1 := hX.cell 1
  have c2 := hX.cell 2
  have c3 := hX.cell 3
  have c4 := hX.cell 4
  simp only [List.getElem?_toArray, List.getElem?_cons_zero, List.getElem?_cons_succ] at c0 c1 c2 c3 c4
  clear hX
  go_wp2_with fail
  go_ret
  exact ⟨rfl, HB1.out⟩

/-- What the law's five calls answer, and what 'one' says of each. -/
structure RdCalls (n m : Int) (s t : ByteArray) where
  b1 : ByteArray
  b2 : ByteArray
  b3 : ByteArray
  b4 : ByteArray
  b5 : ByteArray
  e1 : Int
  e2 : Int
  e5 : Int
  int_ : ∀ (W : World) (_ : Tab10 W), Calls Tryz.prog 6 #[.int .i64 n] W fun e w' => e = .returned (.tuple #[.string b1, .int .i64 e1]) ∧ Below W.heap.size W w'
  real_ : ∀ (W : World) (_ : Tab10 W), Calls Tryz.prog 7 #[.int .i64 m] W fun e w' => e = .returned (.tuple #[.string b2, .int .i64 e2]) ∧ Below W.heap.size W w'
  str_ : ∀ W : World, Calls Tryz.prog 8 #[.string s] W fun e w' => e = .returned (.tuple #[.string b3, .int .i64 0]) ∧ Below W.heap.size W w'
  hex_ : ∀ W : World, Calls Tryz.prog 9 #[.string s] W fun e w' => e = .returned (.tuple #[.string b4, .int .i64 0]) ∧ Below W.heap.size W w'
  name_ : ∀ W : World, Calls Tryz.prog 10 #[.string t] W fun e w' => e = .returned (.tuple #[.string b5, .int .i64 e5]) ∧ Below W.heap.size W w'
  int1 : e1 = 2 ∨ (e1 = 0 ∧ ∀ (W : World) (_ : MaxLenAt W), Calls Tryz.prog 11 #[.string b1, .int .i64 1, .int .i64 n, .string ⟨#[]⟩] W fun e w' => e = .returned (.bool true) ∧ Below W.heap.size W w')
  real1 : e2 = 2 ∨ (e2 = 0 ∧ ∀ (W : World) (_ : MaxLenAt W), Calls Tryz.prog 11 #[.string b2, .int .i64 2, .int .i64 m, .string ⟨#[]⟩] W fun e w' => e = .returned (.bool true) ∧ Below W.heap.size W w')
  name1 : e5 = 5 ∨ e5 = 3 ∨ (e5 = 0 ∧ ∀ (W : World) (_ : MaxLenAt W), Calls Tryz.prog 11 #[.string b5, .int .i64 4, .int .i64 0, .string t] W fun e w' => e = .returned (.bool true) ∧ Below W.heap.size W w')
  str1 : ∀ (W : World) (_ : MaxLenAt W), Calls Tryz.prog 11 #[.string b3, .int .i64 3, .int .i64 0, .string s] W fun e w' => e = .returned (.bool true) ∧ Below W.heap.size W w'
  hex1 : ∀ (W : World) (_ : MaxLenAt W), Calls Tryz.prog 11 #[.string b4, .int .i64 3, .int .i64 0, .string s] W fun e w' => e = .returned (.bool true) ∧ Below W.heap.size W w'
theorem rdCalls (n m : Int) (s t : ByteArray) (hs : s.size ≤ 3000) (ht : t.size ≤ 300) : Nonempty (RdCalls n m s t) := by
  have l1 : longE s.size = 0 := by unfold longE; rw [if_neg (by omega)]
  have x1 : strX s = strL s.data.toList := by unfold strX; rw [if_neg (by omega)]
  have x2 : hexX s = hexT s.data.toList := by unfold hexX; rw [if_neg (by omega)]
  have sl := strB_len s.data.toList
  have nl := nameB_len t.data.toList
  rw [size_len] at sl nl
  refine ⟨⟨bOf (pIntX n), bOf (textL m), bOf (strX s), bOf (hexX s), bOf (nameX t), pIntE n, pRealE m, nameE t, fun W h => plnInt_any n W h, fun W h => plnReal_any m W h, fun W => l1 ▸ plnString_any s W, fun W => l1 ▸ plnHex_any s W (by omega), fun W => plnName_any t W (by omega), ?_, ?_, ?_, ?_, ?_⟩⟩
  · by_cases h : n < -2147483647 ∨ 2147483647 < n
    · exact .inl (pInt_out h).2
    · obtain ⟨e1, e2⟩ := pInt_in h
      refine .inr ⟨e2, fun W hm => one_any _ ⟨#[]⟩ 1 n (Lib.itoa n).length W hm ?_ ?_ ?_⟩
      · rw [bOf_size, e1, itoa_sign, List.length_append]; have := dec_bound n.natAbs (by omega); unfold signL; split <;> simp <;> omega
      · rw [bOf_size, e1]
      · rw [bOf_list, e1]; exact int_whole n (by omega) (by omega)
  · by_cases h : m < -1073741824 ∨ 1073741824 < m
    · exact .inl (pReal_out h).2
    · refine .inr ⟨pReal_in h, fun W hm => one_any _ ⟨#[]⟩ 2 m (textL m).length W hm ?_ rfl (real_whole m (by omega) (by omega))⟩
      have hl := frac_length (m.natAbs % 10000) (by omega)
      have hd := dec_len (m.natAbs / 10000) (by omega)
      rw [bOf_size, textL_in m (by omega) (by omega)]
      simp only [List.length_append]
      have : (if m < 0 then [45] else ([] : List UInt8)).length ≤ 1 := by split <;> simp
      simp
      omega
  · by_cases h : 127 < t.size
    · exact .inl (name_long h).2
    by_cases z : (0 : UInt8) ∈ t.data.toList
    · exact .inr (.inl (name_zero h z).2)
    · obtain ⟨e1, e2⟩ := name_good h z
      refine .inr (.inr ⟨e2, fun W hm => one_any _ t 4 0 (nameL t.data.toList).length W hm ?_ ?_ ?_⟩)
      · rw [bOf_size, e1]; simp [nameL]; omega
      · rw [bOf_size, e1]
      · rw [bOf_list, e1]; exact name_whole _ (by rw [size_len]; omega) z
  · refine fun W hm => one_any _ s 3 0 (strL s.data.toList).length W hm ?_ ?_ ?_
    · rw [bOf_size, x1, str_len]; omega
    · rw [bOf_size, x1]
    · rw [bOf_list, x1]; exact str_whole _ (by rw [size_len]; omega)
  · refine fun W hm => one_any _ s 3 0 (hexT s.data.toList).length W hm ?_ ?_ ?_
    · rw [bOf_size, x2]; simp [hexT, hexS_length]; omega
    · rw [bOf_size, x2]
    · rw [bOf_list, x2]; exact hexT_whole _ (by rw [size_len]; omega)

set_option maxRecDepth 100000 in
set_option maxHeartbeats 4000000 in
theorem reads_out (n m : Int) (s t : ByteArray) (w : World) (hw : PLive w) (h : 3000 < s.size ∨ 300 < t.size) :
    Calls Tryz.prog 3 #[.int .i64 n, .int .i64 m, .string s, .string t] w fun e w' => e = .returned (.bool true) ∧ Below w.heap.size w w' := by
  have HL := Lib.hid hw
  clear hw
  rcases (by omega : 3000 < s.size ∨ (s.size ≤ 3000 ∧ 300 < t.size)) with h | h
  all_goals
    go_enter Tryz.func3, Tryz.ntmps3
    go_wp2_with fail
    refine (plnLives_any _ HL.out.2).mono ?_
    rintro e w3 ⟨rfl, hb3⟩
    go_wp2_with fail
    go_ret
    exact ⟨rfl, hb3⟩

set_option maxRecDepth 100000 in
set_option maxHeartbeats 16000000 in
theorem reads_in (n m : Int) (s t : ByteArray) (w : World) (hw : PLive w) (hs : s.size ≤ 3000) (ht : t.size ≤ 300) :
    Calls Tryz.prog 3 #[.int .i64 n, .int .i64 m, .string s, .string t] w fun e w' => e = .returned (.bool true) ∧ Below w.heap.size w w' := by
  have HL0 := Lib.hid hw
  have HB0 := Lib.hid (Below.refl w.heap.size w)
  clear hw
  obtain ⟨b1, b2, b3, b4, b5, e1, e2, e5, int_, real_, str_, hex_, name_, int1, real1, name1, str1, hex1⟩ := rdCalls n m s t hs ht
  have H1 := Lib.hid int_; have H2 := Lib.hid real_; have H3 := Lib.hid str_; have H4 := Lib.hid hex_; have H5 := Lib.hid name_
  have W1 := Lib.hid int1; have W2 := Lib.hid real1; have W3 := Lib.hid name1; have W4 := Lib.hid str1; have W5 := Lib.hid hex1
  clear int_ real_ str_ hex_ name_ int1 real1 name1 str1 hex1
  go_enter Tryz.func3, Tryz.ntmps3
  go_wp2_with fail
  refine (plnLives_any _ HL0.out.2).mono ?_
  rintro e w1 ⟨rfl, hb⟩
  have HB1 := Lib.hid (HB0.out.trans (hb.mono HB0.out.size))
  have HL1 := Lib.hid (HL0.out.below HB1.out (Nat.le_refl _))
  clear hb
  go_wp2_with fail
  refine (H1.out _ HL1.out.2).mono ?_
  rintro e w2 ⟨rfl, hb⟩
  have HB2 := Lib.hid (HB1.out.trans (hb.mono HB1.out.size))
  have HL2 := Lib.hid (HL0.out.below HB2.out (Nat.le_refl _))
  clear hb
  go_wp2_with fail
  refine (H2.out _ HL2.out.2).mono ?_
  rintro e w3 ⟨rfl, hb⟩
  have HB3 := Lib.hid (HB2.out.trans (hb.mono HB2.out.size))
  have HL3 := Lib.hid (HL0.out.below HB3.out (Nat.le_refl _))
  clear hb
  go_wp2_with fail
  refine (H3.out _).mono ?_
  rintro e w4 ⟨rfl, hb⟩
  have HB4 := Lib.hid (HB3.out.trans (hb.mono HB3.out.size))
  have HL4 := Lib.hid (HL0.out.below HB4.out (Nat.le_refl _))
  clear hb
  go_wp2_with fail
  refine (H4.out _).mono ?_
  rintro e w5 ⟨rfl, hb⟩
  have HB5 := Lib.hid (HB4.out.trans (hb.mono HB4.out.size))
  have HL5 := Lib.hid (HL0.out.below HB5.out (Nat.le_refl _))
  clear hb
  go_wp2_with fail
  refine (H5.out _).mono ?_
  rintro e w6 ⟨rfl, hb⟩
  have HB6 := Lib.hid (HB5.out.trans (hb.mono HB5.out.size))
  have HL6 := Lib.hid (HL0.out.below HB6.out (Nat.le_refl _))
  clear hb
  have x1 := W1.out
  have x2 := W2.out
  have x3 := W3.out
  clear H1 H2 H3 H4 H5 W1 W2 W3
  rcases x1 with rfl | ⟨rfl, x1⟩ <;> rcases x2 with rfl | ⟨rfl, x2⟩ <;> rcases x3 with rfl | rfl | ⟨rfl, x3⟩
  · skip
    go_wp2_with fail
    refine (W4.out _ HL6.out.1).mono ?_
    rintro e w7 ⟨rfl, hb⟩
    have HB7 := Lib.hid (HB6.out.trans (hb.mono HB6.out.size))
    have HL7 := Lib.hid (HL0.out.below HB7.out (Nat.le_refl _))
    clear hb
    go_wp2_with fail
    refine (W5.out _ HL7.out.1).mono ?_
    rintro e w8 ⟨rfl, hb⟩
    have HB8 := Lib.hid (HB7.out.trans (hb.mono HB7.out.size))
    have HL8 := Lib.hid (HL0.out.below HB8.out (Nat.le_refl _))
    clear hb
    go_wp2_with fail
    go_ret
    exact ⟨rfl, HB8.out⟩
  · skip
    go_wp2_with fail
    refine (W4.out _ HL6.out.1).mono ?_
    rintro e w7 ⟨rfl, hb⟩
    have HB7 := Lib.hid (HB6.out.trans (hb.mono HB6.out.size))
    have HL7 := Lib.hid (HL0.out.below HB7.out (Nat.le_refl _))
    clear hb
    go_wp2_with fail
    refine (W5.out _ HL7.out.1).mono ?_
    rintro e w8 ⟨rfl, hb⟩
    have HB8 := Lib.hid (HB7.out.trans (hb.mono HB7.out.size))
    have HL8 := Lib.hid (HL0.out.below HB8.out (Nat.le_refl _))
    clear hb
    go_wp2_with fail
    go_ret
    exact ⟨rfl, HB8.out⟩
  · have X3 := Lib.hid x3
    clear x3
    go_wp2_with fail
    refine (X3.out _ HL6.out.1).mono ?_
    rintro e w7 ⟨rfl, hb⟩
    have HB7 := Lib.hid (HB6.out.trans (hb.mono HB6.out.size))
    have HL7 := Lib.hid (HL0.out.below HB7.out (Nat.le_refl _))
    clear hb
    go_wp2_with fail
    refine (W4.out _ HL7.out.1).mono ?_
    rintro e w8 ⟨rfl, hb⟩
    have HB8 := Lib.hid (HB7.out.trans (hb.mono HB7.out.size))
    have HL8 := Lib.hid (HL0.out.below HB8.out (Nat.le_refl _))
    clear hb
    go_wp2_with fail
    refine (W5.out _ HL8.out.1).mono ?_
    rintro e w9 ⟨rfl, hb⟩
    have HB9 := Lib.hid (HB8.out.trans (hb.mono HB8.out.size))
    have HL9 := Lib.hid (HL0.out.below HB9.out (Nat.le_refl _))
    clear hb
    go_wp2_with fail
    go_ret
    exact ⟨rfl, HB9.out⟩
  · have X2 := Lib.hid x2
    clear x2
    go_wp2_with fail
    refine (X2.out _ HL6.out.1).mono ?_
    rintro e w7 ⟨rfl, hb⟩
    have HB7 := Lib.hid (HB6.out.trans (hb.mono HB6.out.size))
    have HL7 := Lib.hid (HL0.out.below HB7.out (Nat.le_refl _))
    clear hb
    go_wp2_with fail
    refine (W4.out _ HL7.out.1).mono ?_
    rintro e w8 ⟨rfl, hb⟩
    have HB8 := Lib.hid (HB7.out.trans (hb.mono HB7.out.size))
    have HL8 := Lib.hid (HL0.out.below HB8.out (Nat.le_refl _))
    clear hb
    go_wp2_with fail
    refine (W5.out _ HL8.out.1).mono ?_
    rintro e w9 ⟨rfl, hb⟩
    have HB9 := Lib.hid (HB8.out.trans (hb.mono HB8.out.size))
    have HL9 := Lib.hid (HL0.out.below HB9.out (Nat.le_refl _))
    clear hb
    go_wp2_with fail
    go_ret
    exact ⟨rfl, HB9.out⟩
  · have X2 := Lib.hid x2
    clear x2
    go_wp2_with fail
    refine (X2.out _ HL6.out.1).mono ?_
    rintro e w7 ⟨rfl, hb⟩
    have HB7 := Lib.hid (HB6.out.trans (hb.mono HB6.out.size))
    have HL7 := Lib.hid (HL0.out.below HB7.out (Nat.le_refl _))
    clear hb
    go_wp2_with fail
    refine (W4.out _ HL7.out.1).mono ?_
    rintro e w8 ⟨rfl, hb⟩
    have HB8 := Lib.hid (HB7.out.trans (hb.mono HB7.out.size))
    have HL8 := Lib.hid (HL0.out.below HB8.out (Nat.le_refl _))
    clear hb
    go_wp2_with fail
    refine (W5.out _ HL8.out.1).mono ?_
    rintro e w9 ⟨rfl, hb⟩
    have HB9 := Lib.hid (HB8.out.trans (hb.mono HB8.out.size))
    have HL9 := Lib.hid (HL0.out.below HB9.out (Nat.le_refl _))
    clear hb
    go_wp2_with fail
    go_ret
    exact ⟨rfl, HB9.out⟩
  · have X2 := Lib.hid x2
    clear x2
    have X3 := Lib.hid x3
    clear x3
    go_wp2_with fail
    refine (X2.out _ HL6.out.1).mono ?_
    rintro e w7 ⟨rfl, hb⟩
    have HB7 := Lib.hid (HB6.out.trans (hb.mono HB6.out.size))
    have HL7 := Lib.hid (HL0.out.below HB7.out (Nat.le_refl _))
    clear hb
    go_wp2_with fail
    refine (X3.out _ HL7.out.1).mono ?_
    rintro e w8 ⟨rfl, hb⟩
    have HB8 := Lib.hid (HB7.out.trans (hb.mono HB7.out.size))
    have HL8 := Lib.hid (HL0.out.below HB8.out (Nat.le_refl _))
    clear hb
    go_wp2_with fail
    refine (W4.out _ HL8.out.1).mono ?_
    rintro e w9 ⟨rfl, hb⟩
    have HB9 := Lib.hid (HB8.out.trans (hb.mono HB8.out.size))
    have HL9 := Lib.hid (HL0.out.below HB9.out (Nat.le_refl _))
    clear hb
    go_wp2_with fail
    refine (W5.out _ HL9.out.1).mono ?_
    rintro e w10 ⟨rfl, hb⟩
    have HB10 := Lib.hid (HB9.out.trans (hb.mono HB9.out.size))
    have HL10 := Lib.hid (HL0.out.below HB10.out (Nat.le_refl _))
    clear hb
    go_wp2_with fail
    go_ret
    exact ⟨rfl, HB10.out⟩
  · have X1 := Lib.hid x1
    clear x1
    go_wp2_with fail
    refine (X1.out _ HL6.out.1).mono ?_
    rintro e w7 ⟨rfl, hb⟩
    have HB7 := Lib.hid (HB6.out.trans (hb.mono HB6.out.size))
    have HL7 := Lib.hid (HL0.out.below HB7.out (Nat.le_refl _))
    clear hb
    go_wp2_with fail
    refine (W4.out _ HL7.out.1).mono ?_
    rintro e w8 ⟨rfl, hb⟩
    have HB8 := Lib.hid (HB7.out.trans (hb.mono HB7.out.size))
    have HL8 := Lib.hid (HL0.out.below HB8.out (Nat.le_refl _))
    clear hb
    go_wp2_with fail
    refine (W5.out _ HL8.out.1).mono ?_
    rintro e w9 ⟨rfl, hb⟩
    have HB9 := Lib.hid (HB8.out.trans (hb.mono HB8.out.size))
    have HL9 := Lib.hid (HL0.out.below HB9.out (Nat.le_refl _))
    clear hb
    go_wp2_with fail
    go_ret
    exact ⟨rfl, HB9.out⟩
  · have X1 := Lib.hid x1
    clear x1
    go_wp2_with fail
    refine (X1.out _ HL6.out.1).mono ?_
    rintro e w7 ⟨rfl, hb⟩
    have HB7 := Lib.hid (HB6.out.trans (hb.mono HB6.out.size))
    have HL7 := Lib.hid (HL0.out.below HB7.out (Nat.le_refl _))
    clear hb
    go_wp2_with fail
    refine (W4.out _ HL7.out.1).mono ?_
    rintro e w8 ⟨rfl, hb⟩
    have HB8 := Lib.hid (HB7.out.trans (hb.mono HB7.out.size))
    have HL8 := Lib.hid (HL0.out.below HB8.out (Nat.le_refl _))
    clear hb
    go_wp2_with fail
    refine (W5.out _ HL8.out.1).mono ?_
    rintro e w9 ⟨rfl, hb⟩
    have HB9 := Lib.hid (HB8.out.trans (hb.mono HB8.out.size))
    have HL9 := Lib.hid (HL0.out.below HB9.out (Nat.le_refl _))
    clear hb
    go_wp2_with fail
    go_ret
    exact ⟨rfl, HB9.out⟩
  · have X1 := Lib.hid x1
    clear x1
    have X3 := Lib.hid x3
    clear x3
    go_wp2_with fail
    refine (X1.out _ HL6.out.1).mono ?_
    rintro e w7 ⟨rfl, hb⟩
    have HB7 := Lib.hid (HB6.out.trans (hb.mono HB6.out.size))
    have HL7 := Lib.hid (HL0.out.below HB7.out (Nat.le_refl _))
    clear hb
    go_wp2_with fail
    refine (X3.out _ HL7.out.1).mono ?_
    rintro e w8 ⟨rfl, hb⟩
    have HB8 := Lib.hid (HB7.out.trans (hb.mono HB7.out.size))
    have HL8 := Lib.hid (HL0.out.below HB8.out (Nat.le_refl _))
    clear hb
    go_wp2_with fail
    refine (W4.out _ HL8.out.1).mono ?_
    rintro e w9 ⟨rfl, hb⟩
    have HB9 := Lib.hid (HB8.out.trans (hb.mono HB8.out.size))
    have HL9 := Lib.hid (HL0.out.below HB9.out (Nat.le_refl _))
    clear hb
    go_wp2_with fail
    refine (W5.out _ HL9.out.1).mono ?_
    rintro e w10 ⟨rfl, hb⟩
    have HB10 := Lib.hid (HB9.out.trans (hb.mono HB9.out.size))
    have HL10 := Lib.hid (HL0.out.below HB10.out (Nat.le_refl _))
    clear hb
    go_wp2_with fail
    go_ret
    exact ⟨rfl, HB10.out⟩
  · have X1 := Lib.hid x1
    clear x1
    have X2 := Lib.hid x2
    clear x2
    go_wp2_with fail
    refine (X1.out _ HL6.out.1).mono ?_
    rintro e w7 ⟨rfl, hb⟩
    have HB7 := Lib.hid (HB6.out.trans (hb.mono HB6.out.size))
    have HL7 := Lib.hid (HL0.out.below HB7.out (Nat.le_refl _))
    clear hb
    go_wp2_with fail
    refine (X2.out _ HL7.out.1).mono ?_
    rintro e w8 ⟨rfl, hb⟩
    have HB8 := Lib.hid (HB7.out.trans (hb.mono HB7.out.size))
    have HL8 := Lib.hid (HL0.out.below HB8.out (Nat.le_refl _))
    clear hb
    go_wp2_with fail
    refine (W4.out _ HL8.out.1).mono ?_
    rintro e w9 ⟨rfl, hb⟩
    have HB9 := Lib.hid (HB8.out.trans (hb.mono HB8.out.size))
    have HL9 := Lib.hid (HL0.out.below HB9.out (Nat.le_refl _))
    clear hb
    go_wp2_with fail
    refine (W5.out _ HL9.out.1).mono ?_
    rintro e w10 ⟨rfl, hb⟩
    have HB10 := Lib.hid (HB9.out.trans (hb.mono HB9.out.size))
    have HL10 := Lib.hid (HL0.out.below HB10.out (Nat.le_refl _))
    clear hb
    go_wp2_with fail
    go_ret
    exact ⟨rfl, HB10.out⟩
  · have X1 := Lib.hid x1
    clear x1
    have X2 := Lib.hid x2
    clear x2
    go_wp2_with fail
    refine (X1.out _ HL6.out.1).mono ?_
    rintro e w7 ⟨rfl, hb⟩
    have HB7 := Lib.hid (HB6.out.trans (hb.mono HB6.out.size))
    have HL7 := Lib.hid (HL0.out.below HB7.out (Nat.le_refl _))
    clear hb
    go_wp2_with fail
    refine (X2.out _ HL7.out.1).mono ?_
    rintro e w8 ⟨rfl, hb⟩
    have HB8 := Lib.hid (HB7.out.trans (hb.mono HB7.out.size))
    have HL8 := Lib.hid (HL0.out.below HB8.out (Nat.le_refl _))
    clear hb
    go_wp2_with fail
    refine (W4.out _ HL8.out.1).mono ?_
    rintro e w9 ⟨rfl, hb⟩
    have HB9 := Lib.hid (HB8.out.trans (hb.mono HB8.out.size))
    have HL9 := Lib.hid (HL0.out.below HB9.out (Nat.le_refl _))
    clear hb
    go_wp2_with fail
    refine (W5.out _ HL9.out.1).mono ?_
    rintro e w10 ⟨rfl, hb⟩
    have HB10 := Lib.hid (HB9.out.trans (hb.mono HB9.out.size))
    have HL10 := Lib.hid (HL0.out.below HB10.out (Nat.le_refl _))
    clear hb
    go_wp2_with fail
    go_ret
    exact ⟨rfl, HB10.out⟩
  · have X1 := Lib.hid x1
    clear x1
    have X2 := Lib.hid x2
    clear x2
    have X3 := Lib.hid x3
    clear x3
    go_wp2_with fail
    refine (X1.out _ HL6.out.1).mono ?_
    rintro e w7 ⟨rfl, hb⟩
    have HB7 := Lib.hid (HB6.out.trans (hb.mono HB6.out.size))
    have HL7 := Lib.hid (HL0.out.below HB7.out (Nat.le_refl _))
    clear hb
    go_wp2_with fail
    refine (X2.out _ HL7.out.1).mono ?_
    rintro e w8 ⟨rfl, hb⟩
    have HB8 := Lib.hid (HB7.out.trans (hb.mono HB7.out.size))
    have HL8 := Lib.hid (HL0.out.below HB8.out (Nat.le_refl _))
    clear hb
    go_wp2_with fail
    refine (X3.out _ HL8.out.1).mono ?_
    rintro e w9 ⟨rfl, hb⟩
    have HB9 := Lib.hid (HB8.out.trans (hb.mono HB8.out.size))
    have HL9 := Lib.hid (HL0.out.below HB9.out (Nat.le_refl _))
    clear hb
    go_wp2_with fail
    refine (W4.out _ HL9.out.1).mono ?_
    rintro e w10 ⟨rfl, hb⟩
    have HB10 := Lib.hid (HB9.out.trans (hb.mono HB9.out.size))
    have HL10 := Lib.hid (HL0.out.below HB10.out (Nat.le_refl _))
    clear hb
    go_wp2_with fail
    refine (W5.out _ HL10.out.1).mono ?_
    rintro e w11 ⟨rfl, hb⟩
    have HB11 := Lib.hid (HB10.out.trans (hb.mono HB10.out.size))
    have HL11 := Lib.hid (HL0.out.below HB11.out (Nat.le_refl _))
    clear hb
    go_wp2_with fail
    go_ret
    exact ⟨rfl, HB11.out⟩

theorem readsWalk (n m : Int) (s t : ByteArray) (w : World) (hw : PLive w) :
    Calls Tryz.prog 3 #[.int .i64 n, .int .i64 m, .string s, .string t] w fun e w' => e = .returned (.bool true) ∧ Below w.heap.size w w' := by
  by_cases h : 3000 < s.size ∨ 300 < t.size
  · exact reads_out n m s t w hw h
  · exact reads_in n m s t w hw (by omega) (by omega)
end Go.Proofs.YtpngnekoocpncaaGreatDoor
