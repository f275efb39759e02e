/-
  Lemmas and walks, joined: RowEnd, RowKeep, PlnRow, PlnTe.
-/
import Derived.Test.YtpngnekoocpncaaDoorRows
import Derived.ProofKit
import Derived.Below
import Derived.ChangeSame
import Derived.Carry
import Derived.Test.YtpngnekoocpncaaDoorM17
import Derived.Test.YtpngnekoocpncaaDoorM18
import Derived.Test.YtpngnekoocpncaaDoorM19
import Derived.Test.YtpngnekoocpncaaDoorCards
import Derived.Test.YtpngnekoocpncaaDoorTie
import Derived.OpenShut
import Derived.SliceStrings
import Derived.Deep.DeepHandedRow
import Derived.Lib.LaidTab
import Derived.Lay
import Derived.Stop.LaidErr
namespace Go.Proofs.YtpngnekoocpncaaDoor
open Go.WideShapes Go.ChangeShapes Go.RowKit

/-- Arguments and variables that lead to no memory, and a world that agrees with the old one below its size. -/
theorem post_new {H : Type} {enc : TypeId × Value → H} {P : Program} {f : Func} {s : ChangeSpec} {apart fresh handsOn again : Bool} {W W' : World} {args : Array Value} {v : Value} {ds gs : List (DataW H)}
    (whole : DataW.Whole enc P f.params.toList s.vars apart W args.toList ds gs [])
    (results : ∀ (b : Nat) (sp : Nat → Bool) (hd : Bool), DataW.TrodAll enc P W' b sp hd f.resultTypes.toList (v.resultList f.resultTypes.size) (s.fn H (ds ++ gs)).results [])
    (arguments : ∀ sp : Nat → Bool, DataW.TrodAll enc P W' 0 sp true f.params.toList args.toList (s.fn H (ds ++ gs)).args [])
    (variables : ∀ sp : Nat → Bool, DataW.TrodVars enc P W' sp s.vars (s.fn H (ds ++ gs)).vars [])
    (below : Below W.heap.size W W')
    (ok : ∀ (j : Nat) (t : TypeId) (r : Value), f.resultTypes[j]? = some t → (v.resultList f.resultTypes.size)[j]? = some r → Value.okWide P W' .any 0 t r) :
    s.post enc P f apart fresh handsOn again W args v W' := by
  have kept : W.keptBut W' (fun p => p ∈ ([] : List MemPlace) ∧ p ∈ [] ++ ([] ++ [])) := below.frame _
  have both := trodAll_append (arguments fun _ => true) (results 0 (fun _ => true) true)
  refine ⟨ds, gs, [], [], [], [], whole, results _ _ _, arguments _, variables _, ?_, fun _ => ⟨ok, _, _, [], ⟨[], [], both, variables _, rfl, fun b off h => ?_, fun h => ?_⟩, ?_⟩⟩
  · exact World.keptBut_mono (fun p hp => ⟨hp.1, by cases hp.1⟩) kept
  · cases h
  · exact List.nodup_nil
  · intro p hp
    cases hp
end Go.Proofs.YtpngnekoocpncaaDoor
namespace Go.Proofs.YtpngnekoocpncaaDoor
open Go.WideShapes Go.ChangeShapes Go.ChangeAt Go.RowKit

theorem trodAll_keeps {H : Type} {enc : TypeId × Value → H} {P : Program} (hl : laidOutB P = true) {W W' : World} {sp : Nat → Bool} :
    ∀ {ts : List TypeId} {vs : List Value} {ds : List (DataW H)} {ps : List MemPlace}, (∀ t ∈ ts, P.readableRec t = true ∧ t < P.types.size) → DataW.TrodAll enc P W 0 (fun _ => true) true ts vs ds ps →
      (∀ p ∈ ps, W.sameAt W' p) → (∀ p ∈ ps, sp p.block = true) → DataW.TrodAll enc P W' 0 sp true ts vs ds ps
  | [], [], [], _, _, h, _, _ => h
  | t :: _, _ :: _, _ :: _, _, hT, ⟨p, q, h1, h2, e⟩, hsame, hs =>
    ⟨p, q, WideElems.Trod_stays hl (hT t (List.mem_cons.2 (Or.inl rfl))).1 (hT t (List.mem_cons.2 (Or.inl rfl))).2 h1 (fun x hx => hsame x (by rw [e]; exact List.mem_append_left _ hx)) (fun x hx => hs x (by rw [e]; exact List.mem_append_left _ hx)),
      trodAll_keeps hl (fun u hu => hT u (List.mem_cons.2 (Or.inr hu))) h2 (fun x hx => hsame x (by rw [e]; exact List.mem_append_right _ hx)) (fun x hx => hs x (by rw [e]; exact List.mem_append_right _ hx)), e⟩

/-- A law's post: it answers one bool, true; no variable is part of its specification; each argument reads as before. -/
theorem post_keep {H : Type} {enc : TypeId × Value → H} {P : Program} {f : Func} {s : ChangeSpec} {apart fresh handsOn again : Bool} {W W' : World} {args : Array Value} {ds gs : List (DataW H)} {before : List MemPlace} {tb : TypeId}
    (hl : laidOutB P = true) (hts : ∀ t ∈ f.params.toList, P.readableRec t = true ∧ t < P.types.size) (hv0 : s.vars = [])
    (hW : DataW.Whole enc P f.params.toList s.vars apart W args.toList ds gs before)
    (hfn : ∀ ds' : List (DataW H), ds'.length = f.params.size → s.fn H ds' = { results := [.lit (.bool true)], args := ds' })
    (hres : f.resultTypes = #[tb]) (htb : P.underlying tb = some .bool) (hb : Below W.heap.size W W') :
    s.post enc P f apart fresh handsOn again W args (.bool true) W' := by
  have hlt : ∀ p ∈ before, p.block < W.heap.size := fun p hp => hW.lt p hp
  have hsame : ∀ p ∈ before, W.sameAt W' p := fun p hp => hb.same (hlt p hp)
  have hW0 := hW
  obtain ⟨p, q, hA, hV, hbf, hz, hn⟩ := hW
  rw [hv0] at hV
  obtain ⟨rfl, rfl⟩ := trodVars_none hV
  have hlen : ds.length = f.params.size := by
    have hh : ∀ {ts : List TypeId} {vs : List Value} {ds : List (DataW H)} {ps : List MemPlace}, DataW.TrodAll enc P W 0 (fun _ => true) true ts vs ds ps → ds.length = ts.length := by
      intro ts
      induction ts with
      | nil => intro vs ds ps h; cases vs <;> cases ds <;> simp_all [DataW.TrodAll]
      | cons t ts ih =>
        intro vs ds ps h
        cases vs with
        | nil => cases h
        | cons v vs => cases ds with
          | nil => cases h
          | cons d ds =>
            obtain ⟨_, _, _, h2, _⟩ := h
            simp [ih h2]
    have := hh hA
    simpa using this
  rw [List.append_nil] at hbf
  have hspec : s.fn H (ds ++ []) = { results := [.lit (.bool true)], args := ds } := by rw [List.append_nil]; exact hfn ds hlen
  have hargs : ∀ sp : Nat → Bool, (∀ x ∈ before, sp x.block = true) → DataW.TrodAll enc P W' 0 sp true f.params.toList args.toList ds before := fun sp hsp => by
    rw [hbf] at hsame hsp ⊢
    exact trodAll_keeps hl hts hA hsame hsp
  have hold : ∀ x ∈ before, (fun b => decide (b < W.heap.size)) x.block = true := fun x hx => by simpa using hlt x hx
  have hresults : ∀ (b : Nat) (sp : Nat → Bool) (hd : Bool), DataW.TrodAll enc P W' b sp hd f.resultTypes.toList ((Value.bool true).resultList f.resultTypes.size) [.lit (.bool true)] [] := fun _ _ _ => by
    rw [hres]
    exact trodAll_mk1 (shut_bool htb _)
  have hvars : ∀ sp : Nat → Bool, DataW.TrodVars enc P W' sp s.vars ([] : List (DataW H)) [] := fun sp => by rw [hv0]; exact rfl
  have hresults2 : ∀ (b : Nat) (sp : Nat → Bool) (hd : Bool), DataW.TrodAll enc P W' b sp hd f.resultTypes.toList ((Value.bool true).resultList f.resultTypes.size) (s.fn H (ds ++ [])).results [] := by rw [hspec]; exact hresults
  have hargs2 : ∀ sp : Nat → Bool, (∀ x ∈ before, sp x.block = true) → DataW.TrodAll enc P W' 0 sp true f.params.toList args.toList (s.fn H (ds ++ [])).args before := by rw [hspec]; exact hargs
  have hvars2 : ∀ sp : Nat → Bool, DataW.TrodVars enc P W' sp s.vars (s.fn H (ds ++ [])).vars [] := by rw [hspec]; exact hvars
  refine ⟨ds, [], before, [], before, [], hW0, hresults2 _ _ _, hargs2 _ hold, hvars2 _, World.keptBut_mono (fun x hx => ⟨hx, ?_⟩) (hb.frame (· ∈ before)), fun _ => ?_⟩
  · simpa using hx
  · refine ⟨ok_one (by rw [hres]) rfl (okWide_bool_mk htb _), _, _, ([] ++ before) ++ [], ⟨[] ++ before, [], trodAll_append (hargs2 _ (fun _ _ => rfl)) (hresults2 _ _ _), hvars2 _, rfl, ?_, ?_⟩, ?_⟩
    · intro b off hp
      have hin : MemPlace.cell b off ∈ before := by simpa using hp
      rw [hb.frozen (hlt _ hin)]
      exact hz b off hin
    · intro ha
      simpa using hn ha
    · intro x hx _
      simpa using hx
end Go.Proofs.YtpngnekoocpncaaDoor
namespace Go.Proofs.YtpngnekoocpncaaDoor
open Go.ChangeShapes Go.WideShapes Go.ChangeAt Go.RowKit Oct Fix Lex

def PLive (w : World) : Prop := MaxLenAt w ∧ Tab10 w
theorem PLive.below {B : Nat} {w w' : World} (h : PLive w) (hb : Below B w w') (hB : w.heap.size ≤ B) : PLive w' := ⟨h.1.upto hb hB, tab10_below h.2 hb hB⟩

theorem own : ownKnob Tryd.prog.godebug = none := by kernel_rfl
theorem gPow : Tryd.prog.globalNamed "internal/strconv.uint64pow10" = some 1 := by kernel_rfl
theorem gPowType : (Tryd.prog.globals[1]?).map (·.type) = some 101 := by kernel_rfl
theorem cellsPow : Tryd.prog.cellsOf 101 = 20 := by kernel_rfl
theorem cellsU64 : Tryd.prog.cellsOf 82 = 1 := by kernel_rfl

theorem live_of {W : World} (h : laidMet Tryd.prog [("math/bits.deBruijn32tab", Rows.laid_math_bits_deBruijn32tab), ("math/bits.deBruijn64tab", Rows.laid_math_bits_deBruijn64tab), ("internal/strconv.uint64pow10", Rows.laid_internal_strconv_uint64pow10), ("unicode/utf8.acceptRanges", Rows.laid_unicode_utf8_acceptRanges), ("unicode/utf8.first", Rows.laid_unicode_utf8_first)] W) (hsh : W.ShapedOpen Tryd.prog) : PLive W := by
  refine ⟨Tryd.laysM145.s1_3 W hsh, ?_⟩
  have h2 : laidMet Tryd.prog (("internal/strconv.uint64pow10", Lib.tabData .u64 Lib.pow10Tab) :: [("unicode/utf8.acceptRanges", Rows.laid_unicode_utf8_acceptRanges), ("unicode/utf8.first", Rows.laid_unicode_utf8_first)]) W := (laidMet.tail (laidMet.tail h))
  exact Lib.tabIs_of_head gPow gPowType Tryd.underlying101 Tryd.underlying82 cellsU64 cellsPow h2

/-- A world for the witness: the settled one, the listed variables holding what their initialisers lay. -/
noncomputable def laidWorld (os : Os) : World := World.laidAll Tryd.prog os [("math/bits.deBruijn32tab", Rows.laid_math_bits_deBruijn32tab), ("math/bits.deBruijn64tab", Rows.laid_math_bits_deBruijn64tab), ("internal/strconv.uint64pow10", Rows.laid_internal_strconv_uint64pow10), ("unicode/utf8.acceptRanges", Rows.laid_unicode_utf8_acceptRanges), ("unicode/utf8.first", Rows.laid_unicode_utf8_first)]
theorem laid_met (os : Os) (args : Array Value) : laidMet Tryd.prog [("math/bits.deBruijn32tab", Rows.laid_math_bits_deBruijn32tab), ("math/bits.deBruijn64tab", Rows.laid_math_bits_deBruijn64tab), ("internal/strconv.uint64pow10", Rows.laid_internal_strconv_uint64pow10), ("unicode/utf8.acceptRanges", Rows.laid_unicode_utf8_acceptRanges), ("unicode/utf8.first", Rows.laid_unicode_utf8_first)] ((laidWorld os).forCall (fun _ _ => 0) ⟨#[], args, []⟩).memory :=
  laidMet_laidAll args (by kernel_rfl) (by kernel_rfl)

/-- A slice of strings that came in. -/
theorem strs_of {H : Type} {enc : TypeId × Value → H} {W : World} {base : Nat} {spare : Nat → Bool} {held : Bool} {A : Option Addr} {len cap : Nat} {d : DataW H} {p : List MemPlace}
    (h : DataW.Trod enc Tryd.prog W base spare held 22 (.slice A len cap) d p) : ∃ ps : List ByteArray, ps.length = len ∧ Strs W A ps := by
  obtain ⟨fu, hf⟩ := h
  rcases open_strings Tryd.underlying22 Tryd.underlying9 (by kernel_rfl) hf with ⟨hcs, _⟩ | ⟨ad, len', cap', ss, hcs, _, hl, hm, hz, _, hcell, _⟩
  · simp [Value.cells] at hcs
    obtain ⟨rfl, rfl, rfl⟩ := hcs
    exact ⟨[], rfl, fun j hj => absurd hj (Nat.not_lt_zero _)⟩
  · simp [Value.cells] at hcs
    obtain ⟨rfl, rfl, rfl⟩ := hcs
    have hz' : len ≤ ss.length := by rw [hz]; split <;> omega
    refine ⟨ss.take len, by rw [List.length_take]; omega, fun j hj => ?_⟩
    have hj' : j < len := by rw [List.length_take] at hj; omega
    have h0 := hcell 0 (by omega)
    obtain ⟨b, off, spot⟩ := ad
    have hspot : spot = none := by simpa [Addr.add] using World.cell?_spot h0
    subst hspot
    have hb : b < W.heap.size := World.block_lt_of_cell? W _ (by simpa [Addr.add] using h0)
    have g0 := hcell j (by omega)
    rw [Go.WideShapes.add_plain] at g0
    refine ⟨b, off, rfl, hb, g0.trans ?_⟩
    have e : ss.getD j ByteArray.empty = (ss.take len)[j] := by
      rw [List.getElem_take, List.getD_eq_getElem?_getD, List.getElem?_eq_getElem (by omega)]
      rfl
    rw [e]
end Go.Proofs.YtpngnekoocpncaaDoor
namespace Go.Proofs.YtpngnekoocpncaaDoor
open Go.RowKit Oct Fix Lex

set_option maxHeartbeats 800000 in
theorem refReal_any (n : Int) (w : World) :
    Calls Tryd.prog 12 #[.int .i64 n] w fun e w' => e = .returned (.tuple #[.string (bOf (textL n)), .int .i64 (pRealE n)]) ∧ Below w.heap.size w w' := by
  rcases (by omega : n < -1073741824 ∨ 1073741824 < n ∨ (-1073741824 ≤ n ∧ n ≤ 1073741824)) with h | h | ⟨h1, h2⟩
  · obtain ⟨e1, e2⟩ := pReal_out (n := n) (.inl h)
    rw [e1, e2]
    clear e1 e2
    go_enter Tryd.func12, Tryd.ntmps12
    go_wp2_with fail
    go_ret2
    exact ⟨rfl, Below.refl _ _⟩
  · obtain ⟨e1, e2⟩ := pReal_out (n := n) (.inr h)
    rw [e1, e2]
    clear e1 e2
    have h' : ¬ n < -1073741824 := by omega
    go_enter Tryd.func12, Tryd.ntmps12
    go_wp2_with fail
    go_ret2
    exact ⟨rfl, Below.refl _ _⟩
  · have e2 := pReal_in (n := n) (by omega)
    rw [e2]
    clear e2
    have h3 : ¬ n < -1073741824 := by omega
    have h4 : ¬ 1073741824 < n := by omega
    go_enter Tryd.func12, Tryd.ntmps12
    go_wp2_with fail
    refine (textR_any n _).mono ?_
    rintro e w1 ⟨rfl, hb1⟩
    go_wp2_with fail
    go_ret2
    exact ⟨rfl, hb1⟩

section
variable (n m : Int) (s t : ByteArray) (A : Option Addr) (C : Nat) (ps : List ByteArray) (a k : Int) (w : World)
set_option maxRecDepth 100000 in
set_option maxHeartbeats 4000000 in
theorem plnTells_out (hw : PLive w) (h : (3000 < s.size ∧ s.size < 32000) ∨ 33000 < s.size ∨ 300 < t.size ∨ 40 < ps.length) :
    Calls Tryd.prog 3 #[.int .i64 n, .int .i64 m, .string s, .string t, .slice A ps.length C, .int .i64 a, .int .i64 k] w fun e w' => e = .returned (.bool true) ∧ Below w.heap.size w w' := by
  have HL := Lib.hid hw
  clear hw
  rcases (by omega : (3000 < s.size ∧ s.size < 32000) ∨ (33000 < s.size) ∨ (s.size ≤ 3000 ∧ 300 < t.size) ∨ (3000 < s.size ∧ 32000 ≤ s.size ∧ s.size ≤ 33000 ∧ 300 < t.size) ∨ (s.size ≤ 3000 ∧ t.size ≤ 300 ∧ 40 < ps.length) ∨ (3000 < s.size ∧ 32000 ≤ s.size ∧ s.size ≤ 33000 ∧ t.size ≤ 300 ∧ 40 < ps.length)) with h | h | h | h | h | h
  all_goals
    go_enter Tryd.func3, Tryd.ntmps3
    go_wp2_with fail
    refine (plnLives_any _ HL.out.2).mono ?_
    rintro e w3 ⟨rfl, hb3⟩
    go_wp2_with fail
    go_ret
    exact ⟨rfl, hb3⟩

set_option maxRecDepth 100000 in
set_option maxHeartbeats 16000000 in
theorem plnTells_in (hw : PLive w) (hx : Strs w A ps) (ha : a ≤ 9223372036854775807) (h1 : s.size ≤ 3000 ∨ (3000 < s.size ∧ 32000 ≤ s.size ∧ s.size ≤ 33000)) (h2 : t.size ≤ 300) (h3 : ps.length ≤ 40) :
    Calls Tryd.prog 3 #[.int .i64 n, .int .i64 m, .string s, .string t, .slice A ps.length C, .int .i64 a, .int .i64 k] w fun e w' => e = .returned (.bool true) ∧ Below w.heap.size w w' := by
  have HL0 := Lib.hid hw
  have HX := Lib.hid hx
  have HA := Lib.hid ha
  have HB0 := Lib.hid (Below.refl w.heap.size w)
  clear hw hx ha
  rcases h1 with h1 | h1
  all_goals
    go_enter Tryd.func3, Tryd.ntmps3
    go_wp2_with fail
    go_loop [63] (fun i => ∃ j : Nat, j ≤ ps.length ∧ i = .int .i64 (j : Int) ∧ Hid (∀ q (hq : q < ps.length), q < j → ps[q].size ≤ 300)) (fun i => ps.length - (intOf i).toNat)
    case atStart => exact ⟨0, by omega, rfl, Lib.hid fun q hq h => absurd h (Nat.not_lt_zero _)⟩
    case round =>
      obtain ⟨j, hj, rfl, hall⟩ := hrel
      by_cases hlt : j < ps.length
      · have j0 : (0 : Int) ≤ (j : Int) := by omega
        have j1 : (j : Int) < (ps.length : Int) := by omega
        obtain ⟨b0, off, hA, hbl, c0⟩ := HX.out j hlt
        subst hA
        obtain ⟨p, hp⟩ : ∃ p, ps[j] = p := ⟨_, rfl⟩
        rw [hp] at c0
        by_cases hs : p.size ≤ 300
        · have HN : Hid (∀ q (hq : q < ps.length), q < j + 1 → ps[q].size ≤ 300) := Lib.hid (fun q hq h => by
            by_cases e : q = j
            · subst e; rw [hp]; exact hs
            · exact hall.out q hq (by omega))
          clear hp
          go_wp2_with fail
          go_round
          case rel => exact ⟨j + 1, by omega, by go_num, HN⟩
          case measure => simp [intOf]; omega
        · clear hp
          go_wp2_with fail
          refine (plnLives_any _ HL0.out.2).mono ?_
          rintro e w3 ⟨rfl, hb3⟩
          go_wp2_with fail
          go_ret
          exact ⟨rfl, hb3⟩
      · have hp : ∀ p ∈ ps, p.size ≤ 20000 := fun p hp => by
          obtain ⟨q, hq, e⟩ := List.getElem_of_mem hp
          have := hall.out q hq (by omega)
          rw [e] at this
          omega
        have hA1 := fun W ht => plnInt_any n W ht
        have hA2 := fun W => refInt_any n W
        generalize bOf (pIntX n) = b1 at hA1 hA2
        generalize pIntE n = e1 at hA1 hA2
        have hA3 := fun W ht => plnReal_any m W ht
        have hA4 := fun W => refReal_any m W
        generalize bOf (textL m) = b2 at hA3 hA4
        generalize pRealE m = e2 at hA3 hA4
        have hA5 := fun W => plnString_any s W
        have hA6 := fun W => refString_any s W
        generalize bOf (strX s) = b3 at hA5 hA6
        have hA7 := fun W => plnHex_any s W (by omega)
        have hA8 := fun W => refHex_any s W (by omega)
        generalize bOf (hexX s) = b4 at hA7 hA8
        generalize longE s.size = e3 at hA5 hA6 hA7 hA8
        have hA9 := fun W => plnName_any t W (by omega)
        have hA10 := fun W => refName_any t W (by omega)
        generalize bOf (nameX t) = b5 at hA9 hA10
        generalize nameE t = e5 at hA9 hA10
        have hA11 := fun W (hx : Strs W A ps) => plnJoin_any A C ps W hx (by omega) hp
        have hA12 := fun W (hx : Strs W A ps) => refJoin_any A C ps W hx (by omega) hp
        generalize bOf (joinL (datas ps)) = b6 at hA11 hA12
        have hA13 := fun W ht => plnPad_any a k W HA.out ht
        have hA14 := fun W => refPad_any a k W HA.out
        generalize bOf (padL a k) = b7 at hA13 hA14
        have H1 := Lib.hid hA1; have H2 := Lib.hid hA2; have H3 := Lib.hid hA3; have H4 := Lib.hid hA4; have H5 := Lib.hid hA5; have H6 := Lib.hid hA6; have H7 := Lib.hid hA7
        have H8 := Lib.hid hA8; have H9 := Lib.hid hA9; have H10 := Lib.hid hA10; have H11 := Lib.hid hA11; have H12 := Lib.hid hA12; have H13 := Lib.hid hA13; have H14 := Lib.hid hA14
        clear hA1 hA2 hA3 hA4 hA5 hA6 hA7 hA8 hA9 hA10 hA11 hA12 hA13 hA14 hp hall
        go_wp2_with fail
        refine (H1.out _ HL0.out.2).mono ?_
        rintro e w1 ⟨rfl, hb⟩
        have HB1 := Lib.hid (HB0.out.trans (hb.mono HB0.out.size))
        have HL1 := Lib.hid (HL0.out.below HB1.out (Nat.le_refl _))
        clear hb
        go_wp2_with fail
        refine (H2.out _).mono ?_
        rintro e w2 ⟨rfl, hb⟩
        have HB2 := Lib.hid (HB1.out.trans (hb.mono HB1.out.size))
        have HL2 := Lib.hid (HL0.out.below HB2.out (Nat.le_refl _))
        clear hb
        go_wp2_with fail
        refine (H3.out _ HL2.out.2).mono ?_
        rintro e w3 ⟨rfl, hb⟩
        have HB3 := Lib.hid (HB2.out.trans (hb.mono HB2.out.size))
        have HL3 := Lib.hid (HL0.out.below HB3.out (Nat.le_refl _))
        clear hb
        go_wp2_with fail
        refine (H4.out _).mono ?_
        rintro e w4 ⟨rfl, hb⟩
        have HB4 := Lib.hid (HB3.out.trans (hb.mono HB3.out.size))
        have HL4 := Lib.hid (HL0.out.below HB4.out (Nat.le_refl _))
        clear hb
        go_wp2_with fail
        refine (H5.out _).mono ?_
        rintro e w5 ⟨rfl, hb⟩
        have HB5 := Lib.hid (HB4.out.trans (hb.mono HB4.out.size))
        have HL5 := Lib.hid (HL0.out.below HB5.out (Nat.le_refl _))
        clear hb
        go_wp2_with fail
        refine (H6.out _).mono ?_
        rintro e w6 ⟨rfl, hb⟩
        have HB6 := Lib.hid (HB5.out.trans (hb.mono HB5.out.size))
        have HL6 := Lib.hid (HL0.out.below HB6.out (Nat.le_refl _))
        clear hb
        go_wp2_with fail
        refine (H7.out _).mono ?_
        rintro e w7 ⟨rfl, hb⟩
        have HB7 := Lib.hid (HB6.out.trans (hb.mono HB6.out.size))
        have HL7 := Lib.hid (HL0.out.below HB7.out (Nat.le_refl _))
        clear hb
        go_wp2_with fail
        refine (H8.out _).mono ?_
        rintro e w8 ⟨rfl, hb⟩
        have HB8 := Lib.hid (HB7.out.trans (hb.mono HB7.out.size))
        have HL8 := Lib.hid (HL0.out.below HB8.out (Nat.le_refl _))
        clear hb
        go_wp2_with fail
        refine (H9.out _).mono ?_
        rintro e w9 ⟨rfl, hb⟩
        have HB9 := Lib.hid (HB8.out.trans (hb.mono HB8.out.size))
        have HL9 := Lib.hid (HL0.out.below HB9.out (Nat.le_refl _))
        clear hb
        go_wp2_with fail
        refine (H10.out _).mono ?_
        rintro e w10 ⟨rfl, hb⟩
        have HB10 := Lib.hid (HB9.out.trans (hb.mono HB9.out.size))
        have HL10 := Lib.hid (HL0.out.below HB10.out (Nat.le_refl _))
        clear hb
        go_wp2_with fail
        refine (H11.out _ (HX.out.below HB10.out (Nat.le_refl _))).mono ?_
        rintro e w11 ⟨rfl, hb⟩
        have HB11 := Lib.hid (HB10.out.trans (hb.mono HB10.out.size))
        have HL11 := Lib.hid (HL0.out.below HB11.out (Nat.le_refl _))
        clear hb
        go_wp2_with fail
        refine (H12.out _ (HX.out.below HB11.out (Nat.le_refl _))).mono ?_
        rintro e w' ⟨rfl, rfl⟩
        go_wp2_with fail
        refine (H13.out _ HL11.out.2).mono ?_
        rintro e w12 ⟨rfl, hb⟩
        have HB12 := Lib.hid (HB11.out.trans (hb.mono HB11.out.size))
        have HL12 := Lib.hid (HL0.out.below HB12.out (Nat.le_refl _))
        clear hb
        go_wp2_with fail
        refine (H14.out _).mono ?_
        rintro e w13 ⟨rfl, hb⟩
        have HB13 := Lib.hid (HB12.out.trans (hb.mono HB12.out.size))
        have HL13 := Lib.hid (HL0.out.below HB13.out (Nat.le_refl _))
        clear hb
        go_wp2_with fail
        refine (plnLives_any _ HL13.out.2).mono ?_
        rintro e w14 ⟨rfl, hb⟩
        have HB14 := Lib.hid (HB13.out.trans (hb.mono HB13.out.size))
        have HL14 := Lib.hid (HL0.out.below HB14.out (Nat.le_refl _))
        clear hb
        go_wp2_with fail
        go_ret
        exact ⟨rfl, HB14.out⟩

theorem plnTellsWalk_ (hw : PLive w) (hx : Strs w A ps) (wa : (Lit.int .i64 a).wf = true) :
    Calls Tryd.prog 3 #[.int .i64 n, .int .i64 m, .string s, .string t, .slice A ps.length C, .int .i64 a, .int .i64 k] w fun e w' => e = .returned (.bool true) ∧ Below w.heap.size w w' := by
  have ha : a ≤ 9223372036854775807 := by
    simp [Lit.wf, IntKind.min, IntKind.max, IntKind.signed, IntKind.bits] at wa
    omega
  by_cases h : (3000 < s.size ∧ s.size < 32000) ∨ 33000 < s.size ∨ 300 < t.size ∨ 40 < ps.length
  · exact plnTells_out n m s t A C ps a k w hw h
  · exact plnTells_in n m s t A C ps a k w hw hx ha (by omega) (by omega) (by omega)
end
theorem plnTellsWalk (n m : Int) (s t : ByteArray) (A : Option Addr) (C : Nat) (ps : List ByteArray) (a k : Int) (w : World) (hw : PLive w) (hx : Strs w A ps) (wa : (Lit.int .i64 a).wf = true) :
    Calls Tryd.prog 3 #[.int .i64 n, .int .i64 m, .string s, .string t, .slice A ps.length C, .int .i64 a, .int .i64 k] w fun e w' => e = .returned (.bool true) ∧ Below w.heap.size w w' := plnTellsWalk_ n m s t A C ps a k w hw hx wa
end Go.Proofs.YtpngnekoocpncaaDoor
