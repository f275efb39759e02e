/-
  Lemmas and walks, joined: FldT, FldU, FldV, SttA, SttB.
-/
import Derived.Test.YtbagmjedkcipgaaDoorMgJFldA
import Derived.Test.YtbagmjedkcipgaaDoorMgJBase0
import Derived.Sort.MapsRangeIn
import Derived.Maps.RangeWalk
import Derived.BigQuiet
import Derived.LoopTactic
namespace Go.Proofs.YtbagmjedkcipgaaDoor
open Go.RowKit Go.WideMaps Go.Maps Go.Shelf
attribute [local go_sem] Oper.semAt_some

theorem signatures_in (n : Nat) (w : World) : CallsIn Fence.wide n Tryd.prog 73 #[] w fun e w' => e = .returned (.map (some w.heap.size)) ∧ w'.ownsMap Tryd.prog 9 (plainElem (H := Unit) Tryd.prog 9) w.heap.size 14 (sigD Unit) ∧ Below w.heap.size w w' := callsIn_wide.2 (signatures_any w)

/-- A loop whose rounds grow less in number, whatever the frame is. -/
theorem rounds_ind {F : Fence} {n : Nat} {P : Program} {c : Code} {Q : Exit → Act → World → Prop} (Rel : Nat → Act → World → Prop)
    (hstep : ∀ cnt a w, Rel cnt a w → c.wpIn F n P (Exit.then (fun a' w' => ∃ cnt', cnt' < cnt ∧ Rel cnt' a' w') Q) a w) : ∀ (k cnt : Nat) (a : Act) (w : World), cnt < k → Rel cnt a w → Code.roundsIn F n P c Q k a w
  | 0, cnt, _, _, h, _ => absurd h (Nat.not_lt_zero _)
  | k + 1, cnt, a, w, h, hr => by
    refine wpIn_mono (hstep cnt a w hr) ?_
    intro e a' w' he
    cases e with
    | normal =>
      obtain ⟨cnt', h1, h2⟩ := he
      exact rounds_ind Rel hstep k cnt' a' w' (by omega) h2
    | ret => exact he
    | exit id => exact he
    | goto l => exact he
    | panic ch => exact he
    | outgrown => exact he
theorem below_put {B D : Nat} {w W : World} (h : Below B w W) (hD : B ≤ D) (o : Obj) : Below B w (W.putObj D o) :=
  ⟨h.os, h.tape, h.output, by simpa [World.putObj] using h.size, fun k hk => (World.putObj_heap_other (by omega)).trans (h.block k hk)⟩
theorem blk_put {g D : Nat} {W : World} {t : TypeId} {cs : Array Value} (h : Blk W g t cs) (hD : g ≠ D) (o : Obj) : Blk (W.putObj D o) g t cs := (World.putObj_heap_other hD).trans h
def tkA (name : ByteArray) (N r : Nat) (t : Nat → Value) (ds : List Deferred) : Act :=
  { tmps := #[.string name, .pointer (some ⟨N, 0, none⟩), .pointer (some ⟨N + 1, 0, none⟩), t 3, t 4, t 5, .map (some (N + 2)), .pointer (some ⟨r, 0, none⟩), t 8, t 9, t 10, t 11, t 12, t 13, t 14, t 15, t 16, t 17, t 18, t 19], defers := ds }
/-- What Takes' rounds know: cnt entries are left; none that is gone has the name. -/
structure TkRel (name : ByteArray) (N r : Nat) (w : World) (left : Lit → Bool) (cnt : Nat) (ds : List Deferred) (W : World) : Prop where
  rg : W.ranges Tryd.prog 9 (plainElem (H := Unit) Tryd.prog 9) (N + 2) r 14 (sigD Unit) left cnt
  marks : Marked (r + 1) W ds
  gone : ∀ p ∈ sigs, left (.string p.1) = false → name.data.toList ∉ wordsL p.2
  b0 : Blk W N 9 #[.string name]
  b1 : Blk W (N + 1) 9 #[.string ⟨#[]⟩]
  below : Below N w W
  sz : N + 2 < r ∧ r < W.heap.size

set_option maxRecDepth 100000 in
set_option maxHeartbeats 4000000 in
theorem takes_in (m : Nat) (hm : 3 ≤ m) (name : ByteArray) (w : World) (hsp : SpaceAt w) (hg : 0 < w.heap.size) :
    CallsIn Fence.wide m Tryd.prog 53 #[.string name] w fun e w' => e = .returned (.string ⟨(takesL name.data.toList).toArray⟩) ∧ Below w.heap.size w w' := by
  obtain ⟨N, hN⟩ : ∃ N, w.heap.size = N := ⟨_, rfl⟩
  obtain ⟨V, hV⟩ : ∃ V, (w.alloc (.cells #[.string name] 9)).alloc (.cells #[.string ⟨#[]⟩] 9) = V := ⟨_, rfl⟩
  have hVs : V.heap.size = N + 2 := by rw [← hV, World.size_alloc, World.size_alloc, hN]
  have b0 : Blk V N 9 #[.string name] := by rw [← hV, ← hN]; exact (Blk.new w _ _).alloc _
  have b1 : Blk V (N + 1) 9 #[.string ⟨#[]⟩] := by
    rw [← hV]
    have := Blk.new (w.alloc (.cells #[.string name] 9)) 9 #[.string ⟨#[]⟩]
    rwa [World.size_alloc, hN] at this
  have hBV : Below N w V := by rw [← hV, ← hN]; exact ((Below.refl _ w).alloc (Nat.le_refl _) _).alloc (by simp) _
  have HV := Lib.hid (And.intro b0 (And.intro b1 (And.intro hBV hVs)))
  have HSg := Lib.hid (fun n => signatures_in n V)
  rw [hN]
  refine callsIn_of_wp_marks Tryd.func53 rfl trivial ?_ rfl
  simp only [Tryd.ntmps53, List.size_toArray, List.length_cons, List.length_nil, Nat.reduceAdd, Nat.reduceSub, Array.replicate_succ, Array.replicate_zero, List.push_toArray, List.append_toArray, List.nil_append, List.cons_append]
  clear b0 b1 hBV
  gi_wp2
  refine ⟨trivial, fun h => (by cases h), (HSg.out _).mono ?_⟩
  rintro e w1 ⟨rfl, hown, hb⟩
  have HW1 := Lib.hid (And.intro hown hb)
  clear hown hb HSg
  rw [hVs] at HW1 ⊢
  obtain ⟨w2, hrun, hrg, hgr, hsz2⟩ := HW1.out.1.range sigLaw Tryd.underlying90
  have hs1 := HW1.out.2.size
  rw [hVs] at hs1
  obtain ⟨r, hr⟩ : ∃ r, w1.heap.size = r := ⟨_, rfl⟩
  rw [hr] at hrun hrg hsz2 hs1
  have hB2 : Below (N + 2) V w2 := HW1.out.2.grown hgr (by omega) (fun k hk => by cases hk)
  have hlt1 : N + 2 < r := by
    obtain ⟨es, ck, he, _⟩ := HW1.out.1
    rw [← hr]
    exact (Array.getElem?_eq_some_iff.1 he).1
  have hgone : ∀ p ∈ sigs, Maps.has (sigD Unit) (.string p.1) = false → name.data.toList ∉ wordsL p.2 := fun p hp h => by
    have h3 : (sigs.all fun p => Maps.has (sigD Unit) (.string p.1)) = true := by decide +kernel
    rw [List.all_eq_true.1 h3 p hp] at h
    cases h
  have HI : Hid (TkRel name N r w (Maps.has (sigD Unit)) (Maps.size (sigD Unit)) [] w2) := Lib.hid ⟨hrg, trivial, hgone, HV.out.1.below hB2 (by omega), HV.out.2.1.below hB2 (by omega), HV.out.2.2.1.trans (hB2.mono (by omega)), hlt1, by omega⟩
  clear hrg hgr hB2 HW1 HV hV
  gi_wp2
  refine wpIn_loop_rounds 15 ?_
  refine rounds_ind (fun cnt a W => ∃ (left : Lit → Bool) (t : Nat → Value) (ds : List Deferred), a = tkA name N r t ds ∧ TkRel name N r w left cnt ds W) ?_ 15 (Maps.size (sigD Unit)) _ _ (by decide +kernel) ⟨_, fun _ => undef, [], rfl, HI.out⟩
  clear HI hrun
  intro cnt a W hrel
  obtain ⟨left, t, ds, rfl, hI⟩ := hrel
  have HI := Lib.hid hI
  clear hI
  unfold tkA
  rcases HI.out.rg.next sigLaw 0 with ⟨h0, hl, hrun⟩ | ⟨key, v, kl, y, w', cnt', hkey, hlk, hv, hat, hrun, hrg, hlt, hgr, hsz, hen⟩
  · have HT := Lib.hid (takes_miss (fun p hp => HI.out.gone p hp (hl _)))
    have c1 := HI.out.b1.cell 0
    have f1 := HI.out.b1.frozen 0
    clear hl h0
    have hN1 := HI.out.sz.1
    have HE := Lib.hid (And.intro (HI.out.b1.set_ 0 (.string ⟨#[63]⟩)) (HI.out.below.setCell (p := ⟨N + 1, 0, none⟩) (by show N ≤ N + 1; omega) (.string ⟨#[63]⟩)))
    have HM := Lib.hid (HI.out.marks.kept (W' := W.setCell ⟨N + 1, 0, none⟩ (.string ⟨#[63]⟩)) (fun D hD h => (Below.heap_setCell _ _ _ _ (by show D ≠ N + 1; omega)).trans h))
    gi_wp2
    show LeavesInM _ _ _ _ _ _ ds .returning _
    refine leaves_marks (B := r + 1) (S := fun W' => Blk W' (N + 1) 9 #[.string ⟨#[63]⟩] ∧ Below N w W') ?_ ?_ ds _ HM.out HE.out
    · rintro W D ⟨h1, h2⟩ hD _
      exact ⟨blk_put h1 (by omega) _, below_put h2 (by omega) _⟩
    · rintro W ⟨h1, h2⟩
      have e1 := h1.cell 0
      refine ⟨.string ⟨#[63]⟩, ?_, by rw [HT.out], h2⟩
      simp [results, Tryd.results53, go_sem, e1]
  · obtain ⟨s, rfl⟩ := Maps.keyOf_string_inv Tryd.underlying9 hkey
    obtain ⟨nm, rfl, hy, hnm⟩ := plainElem_string_inv Tryd.underlying9 hv
    have hkl : kl = .string s.data.toList := by
      simp [keyOf, mapKey, Tryd.underlying9] at hkey
      exact hkey.2.symm
    subst hkl
    have hin : (s.data.toList, nm.data.toList) ∈ sigs := sig_at (fun zd => by rw [hat zd, hy])
    have HIn := Lib.hid hin
    obtain ⟨G, hG⟩ : ∃ G, w'.heap.size = G := ⟨_, rfl⟩
    clear hkey hv hat hlk hy hin
    rw [hsz] at hG
    obtain ⟨X3, hX3⟩ : ∃ X, (w'.alloc (.cells #[.string s] 9)).alloc (.cells #[.string nm] 9) = X := ⟨_, rfl⟩
    have hX3s : X3.heap.size = G + 2 := by rw [← hX3, World.size_alloc, World.size_alloc, hsz, hG]
    have hG2 : w'.heap.size = G := by rw [hsz, hG]
    have hrG : r < G := by rw [← hG]; exact HI.out.sz.2
    have g1 : Blk X3 G 9 #[.string s] := by rw [← hX3, ← hG2]; exact (Blk.new w' _ _).alloc _
    have g2 : Blk X3 (G + 1) 9 #[.string nm] := by
      rw [← hX3]
      have := Blk.new (w'.alloc (.cells #[.string s] 9)) 9 #[.string nm]
      rwa [World.size_alloc, hG2] at this
    have hgr3 : W.grownBy X3 (some r) := by
      rw [← hX3]
      exact (hgr.trans ((World.grownBy_alloc w' _ none).but (some r))).trans ((World.grownBy_alloc _ _ none).but (some r))
    have g0 : Blk X3 N 9 #[.string name] := HI.out.b0.grown hgr3 (by have := HI.out.sz; simp; omega)
    have gr : Blk X3 (N + 1) 9 #[.string ⟨#[]⟩] := HI.out.b1.grown hgr3 (by have := HI.out.sz; simp; omega)
    have gB : Below N w X3 := HI.out.below.grown hgr3 (by have := HI.out.sz; omega) (fun k hk => by injection hk with hk; have := HI.out.sz; omega)
    have gM : Marked (r + 1) X3 ds := HI.out.marks.kept (fun D hD h => (hgr3.block D (Array.getElem?_eq_some_iff.1 h).1 (by simp; omega)).trans h)
    have gR : X3.ranges Tryd.prog 9 (plainElem (H := Unit) Tryd.prog 9) (N + 2) r 14 (sigD Unit) (fun z => left z && !z.sameKey (.string s.data.toList)) cnt' := by rw [← hX3]; exact (hrg.alloc _).alloc _
    have HX := Lib.hid (And.intro g0 (And.intro gr (And.intro g1 (And.intro g2 (And.intro gB (And.intro gM gR))))))
    have HFi := Lib.hid (fun n => fields_in n nm (w'.alloc (.cells #[.string s] 9)))
    rw [hX3, World.size_alloc, hG2] at HFi
    have HSz := Lib.hid (And.intro hX3s (And.intro hrG HI.out.sz.1))
    have HSpX := Lib.hid (hsp.below gB (by rw [← hN]; exact hg))
    have hgN : 0 < N := by rw [← hN]; exact hg
    clear g0 gr g1 g2 gB gM gR hgr3
    gi_wp2
    refine ⟨trivial, fun h => (by cases h), (HFi.out _).mono ?_⟩
    rintro e w4 ⟨rfl, rfl⟩
    clear HFi hX3 hgr hen hrun
    gi_wp2
    have hasc : ∀ j (h : j < nm.size), nm[j].toNat < 128 := fun j h => by
      have h1 := List.all_eq_true.1 (List.all_eq_true.1 sigs_ascii _ HIn.out) nm[j] (by
        have h2 : j < nm.data.toList.length := by simpa using h
        have h3 : nm.data.toList[j] = nm[j] := rfl
        rw [← h3]
        exact List.getElem_mem h2)
      exact of_decide_eq_true h1
    have hshort : nm.size ≤ 1000000 := by
      have h1 := of_decide_eq_true (List.all_eq_true.1 sigs_short _ HIn.out)
      have h2 : nm.data.toList.length = nm.size := by simp
      have h3 : nm.data.toList.length ≤ 1000 := h1
      omega
    refine wpIn_rangeFunc_ownG rfl (by omega) (gf := 80) (lb := #[.pointer (some ⟨G + 1, 0, none⟩)]) rfl trivial (enters_of Tryd.func80 (by kernel_rfl) rfl)
      (fields_stops _ (G + 1) (fun b => b < N ∨ b = G + 1) nm hshort hasc w4 (Or.inr rfl) (Or.inl hgN) (by have := HSz.out.1; omega) (by have := HSz.out.1; omega) (HX.out.2.2.2.1.cell 0) HSpX.out)
      (fun h k => h.trans k) (fun W l o o' hl _ _ _ b hb => World.putObj_heap_other (by have := HSz.out; rcases hb with h | h <;> omega)) (Below.refl _ _) (fun _ => rfl)
      (fun pre W => Below w4.heap.size w4 W ∧ ∀ x ∈ pre, nm.extract x.1 x.2 ≠ name)
      (fun c pre W => (c = .ret ∧ ∃ x ∈ pre, nm.extract x.1 x.2 = name) ∧ Blk W (N + 1) 9 #[.string s] ∧ Below N w W ∧ Marked (r + 1) W ds)
      (OwnFrom.and (ownFrom_below (Nat.le_refl _) (Nat.le_refl _)) (ownFrom_pure _ _)) ?hIx ⟨Below.refl _ _, fun x hx => by cases hx⟩
      (fun x => { tmps := #[.string name, .pointer (some ⟨N, 0, none⟩), .pointer (some ⟨N + 1, 0, none⟩), .pointer (some ⟨G, 0, none⟩), .string nm, .string (nm.extract x.1 x.2), .map (some (N + 2)), .pointer (some ⟨r, 0, none⟩), .tuple #[.bool true, .string s, .string nm], .bool true, .tuple #[.string s, .string nm], .string s, .string nm, .string nm, .func (.func 80) #[] #[.pointer (some ⟨G + 1, 0, none⟩)], .string (nm.extract x.1 x.2), t 16, t 17, t 18, t 19], defers := [] }) ?assign ?body ?done ?stop
    case hIx =>
      rintro c pre W W' row ⟨h1, h2, h3, h4⟩ hgW hrow
      have hz := HSz.out
      have hW2 := h2.lt
      refine ⟨h1, h2.grown hgW (fun e => by have := (hrow _ e.symm).1; omega), h3.grown hgW (by omega) (fun k e => by have := (hrow k e).1; omega), Marked.far (W0 := w4) rfl (fun D hD h => (hgW.block D (Array.getElem?_eq_some_iff.1 h).1 (fun e => by have := (hrow _ e.symm).1; omega)).trans h) HX.out.2.2.2.2.2.1 h4⟩
    case assign =>
      intro l x W K hK
      dsimp only [encF]
      gi_wp2
      exact hK
    case body =>
      rintro l pre x W ⟨hB, hpre⟩ hlt'
      have c0 := (HX.out.1.below hB HX.out.1.lt).cell 0
      obtain ⟨Y, hY⟩ : ∃ Y, nm.extract x.1 x.2 = Y := ⟨_, rfl⟩
      have HYx := Lib.hid hY
      rw [hY]
      clear hY
      by_cases hYn : Y = name
      · have hz := HSz.out
        have HYn := Lib.hid hYn
        have hYn2 : (Y.toList == name.toList) = true := by rw [hYn]; exact beq_self_eq_true _
        have bG := HX.out.2.2.1.below hB HX.out.2.2.1.lt
        have bR := HX.out.2.1.below hB HX.out.2.1.lt
        have c1 := bG.cell 0
        have c2 := bR.cell 0
        have f2 := bR.frozen 0
        have HMem := Lib.hid (show (x.1, x.2) ∈ pre ++ [x] by simp)
        have HEq := Lib.hid (show nm.extract x.1 x.2 = name by rw [HYx.out, hYn])
        have HRet := Lib.hid (show KeepsFrom w4.heap.size W (W.setCell ⟨N + 1, 0, none⟩ (.string s)) ∧ Blk (W.setCell ⟨N + 1, 0, none⟩ (.string s)) (N + 1) 9 #[.string s] ∧ Below N w (W.setCell ⟨N + 1, 0, none⟩ (.string s)) ∧ Marked (r + 1) (W.setCell ⟨N + 1, 0, none⟩ (.string s)) ds from
          ⟨KeepsFrom.of_grownBy (row := some (N + 1)) ⟨rfl, rfl, rfl, by simp [World.setCell], fun k _ hk => Below.heap_setCell _ _ _ _ (fun e => hk (by rw [e]))⟩ (fun j e => by injection e with e; omega), bR.set_ 0 _, (HX.out.2.2.2.2.1.trans (hB.mono (by omega))).setCell (p := ⟨N + 1, 0, none⟩) (by show N ≤ N + 1; omega) _,
            Marked.far (W0 := w4) (W := w4) rfl (fun D hD h => (Below.heap_setCell _ _ _ _ (by show D ≠ N + 1; intro e; rw [e] at h; have := HX.out.2.1; unfold Blk at this; rw [this] at h; cases h)).trans ((hB.block D hD).trans h)) HX.out.2.2.2.2.2.1 HX.out.2.2.2.2.2.1⟩)
        clear bG bR hpre
        gi_wp2
        exact ⟨HRet.out.1, ⟨rfl, x, HMem.out, HEq.out⟩, HRet.out.2⟩
      · have hYn2 : (Y.toList == name.toList) = false := by
          rw [ByteArray.toList_eq, ByteArray.toList_eq, beq_eq_false_iff_ne]
          exact fun e => hYn (ByteArray.ext (Array.toList_inj.1 e))
        have HNo := Lib.hid (show ∀ y ∈ pre ++ [x], nm.extract y.1 y.2 ≠ name from fun y hy => by
          rcases List.mem_append.1 hy with h | h
          · exact hpre y h
          · rw [List.mem_singleton.1 h, HYx.out]; exact hYn)
        have HBB := Lib.hid hB
        clear hpre
        gi_wp2
        exact ⟨KeepsFrom.refl _ _, KeptB.refl _ _, HBB.out, fun y hy => HNo.out y hy⟩
    case done =>
      rintro D ys W hD rfl ⟨hB, hno⟩ hK
      have hz := HSz.out
      have hgone : ∀ p ∈ sigs, (left (.string p.1) && !Lit.sameKey (.string p.1) (.string s.data.toList)) = false → name.data.toList ∉ wordsL p.2 := fun p hp h => by
        rcases Bool.and_eq_false_iff.1 h with h | h
        · exact HI.out.gone p hp h
        · have h1 : Lit.sameKey (.string p.1) (.string s.data.toList) = true := by simpa using h
          have h2 : (p.1 == s.data.toList) = true := h1
          have h3 := sigs_one hp HIn.out (by simpa using h2)
          rw [h3]
          exact word_out hno
      have HR : Hid (TkRel name N r w (fun z => left z && !z.sameKey (.string s.data.toList)) cnt' ({ target := .collected D, args := #[] } :: ds) W) := Lib.hid
        ⟨HX.out.2.2.2.2.2.2.kept (row := none) ⟨hB.os, hB.tape, hB.output, hB.size, fun k hk _ => hB.block k hk⟩ (by simp) (by simp),
         Marked.push (W := w4) (S := w4.heap.size) (Marked.far (W0 := w4) (W := w4) rfl (fun D' hD' h => (hB.block D' hD').trans h) HX.out.2.2.2.2.2.1 HX.out.2.2.2.2.2.1) hK (by omega) HX.out.2.2.2.2.2.1 rfl hD,
         hgone, HX.out.1.below hB HX.out.1.lt, HX.out.2.1.below hB HX.out.2.1.lt, HX.out.2.2.2.2.1.trans (hB.mono (by omega)), hz.2.2, by have := hB.size; omega⟩
      have HLt := Lib.hid hlt
      clear hno hgone hK
      gi_wp2
      exact ⟨cnt', HLt.out, _, fun i => match i with | 3 => .pointer (some ⟨G, 0, none⟩) | 4 => .string nm | 8 => .tuple #[.bool true, .string s, .string nm] | 9 => .bool true | 10 => .tuple #[.string s, .string nm] | 11 => .string s | 12 => .string nm | 13 => .string nm | 14 => .func (.func 80) #[] #[.pointer (some ⟨G + 1, 0, none⟩)] | i => t i, _, rfl, HR.out⟩
    case stop =>
      rintro D c pre W hD hsub ⟨⟨rfl, x, hx, he⟩, hb1, hbl, hmk⟩ hK
      have hz := HSz.out
      have HTk := Lib.hid (takes_hit HIn.out (word_in (hsub x hx) he))
      have HM := Lib.hid (Marked.push (W := w4) (S := w4.heap.size) hmk hK (by omega) HX.out.2.2.2.2.2.1 rfl hD)
      have HE := Lib.hid (And.intro hb1 hbl)
      clear hmk hb1 hbl hK hx he hsub
      gi_wp2
      show LeavesInM _ _ _ _ _ _ ({ target := .collected D, args := #[] } :: ds) .returning _
      refine leaves_marks (B := r + 1) (S := fun W' => Blk W' (N + 1) 9 #[.string s] ∧ Below N w W') ?_ ?_ _ _ HM.out HE.out
      · rintro W D ⟨h1, h2⟩ hD _
        exact ⟨blk_put h1 (by omega) _, below_put h2 (by omega) _⟩
      · rintro W ⟨h1, h2⟩
        have e1 := h1.cell 0
        refine ⟨.string s, ?_, by rw [HTk.out], h2⟩
        simp [results, Tryd.results53, go_sem, e1]
theorem takes_any (name : ByteArray) (w : World) (hsp : SpaceAt w) (hg : 0 < w.heap.size) :
    Calls Tryd.prog 53 #[.string name] w fun e w' => e = .returned (.string ⟨(takesL name.data.toList).toArray⟩) ∧ Below w.heap.size w w' := callsIn_wide.1 (takes_in 3 (by decide) name w hsp hg)
end Go.Proofs.YtbagmjedkcipgaaDoor
namespace Go.Proofs.YtbagmjedkcipgaaDoor
open Go.RowKit

def matchK (k c : Int) : Bool := if c = 110 then decide (k = 2) || decide (k = 3) else if c = 115 then decide (k = 4) else if c = 78 then decide (k = 5) else if c = 97 then decide (k = 6) else if c = 100 then decide (k = 7) else true

set_option maxRecDepth 100000 in
theorem matches_any (k c : Int) (w : World) : Calls Tryd.prog 54 #[.int .i64 k, .int .u8 c] w fun e w' => e = .returned (.bool (matchK k c)) ∧ w = w' := by
  have H := Lib.hid (show matchK k c = if c = 110 then decide (k = 2) || decide (k = 3) else if c = 115 then decide (k = 4) else if c = 78 then decide (k = 5) else if c = 97 then decide (k = 6) else if c = 100 then decide (k = 7) else true from rfl)
  obtain ⟨z, hz⟩ : ∃ z, matchK k c = z := ⟨_, rfl⟩
  rw [hz] at H ⊢
  clear hz
  by_cases h1 : c = 110
  · subst h1
    rw [if_pos rfl] at H
    by_cases h2 : k = 2
    · subst h2
      go_enter Tryd.func54, Tryd.ntmps54
      go_wp2_with fail
      go_ret
      exact ⟨by rw [H.out]; rfl, rfl⟩
    · have h2b : (k == 2) = false := by simpa using h2
      rw [decide_eq_false h2, Bool.false_or] at H
      go_enter Tryd.func54, Tryd.ntmps54
      go_wp2_with fail
      go_ret
      exact ⟨by rw [H.out]; rfl, rfl⟩
  · rw [if_neg h1] at H
    have b1 : (c == 110) = false := by simpa using h1
    by_cases h2 : c = 115
    · subst h2
      rw [if_pos rfl] at H
      go_enter Tryd.func54, Tryd.ntmps54
      go_wp2_with fail
      go_ret
      exact ⟨by rw [H.out]; rfl, rfl⟩
    · rw [if_neg h2] at H
      have b2 : (c == 115) = false := by simpa using h2
      by_cases h3 : c = 78
      · subst h3
        rw [if_pos rfl] at H
        go_enter Tryd.func54, Tryd.ntmps54
        go_wp2_with fail
        go_ret
        exact ⟨by rw [H.out]; rfl, rfl⟩
      · rw [if_neg h3] at H
        have b3 : (c == 78) = false := by simpa using h3
        by_cases h4 : c = 97
        · subst h4
          rw [if_pos rfl] at H
          go_enter Tryd.func54, Tryd.ntmps54
          go_wp2_with fail
          go_ret
          exact ⟨by rw [H.out]; rfl, rfl⟩
        · rw [if_neg h4] at H
          have b4 : (c == 97) = false := by simpa using h4
          by_cases h5 : c = 100
          · subst h5
            rw [if_pos rfl] at H
            go_enter Tryd.func54, Tryd.ntmps54
            go_wp2_with fail
            go_ret
            exact ⟨by rw [H.out]; rfl, rfl⟩
          · rw [if_neg h5] at H
            have b5 : (c == 100) = false := by simpa using h5
            go_enter Tryd.func54, Tryd.ntmps54
            go_wp2_with fail
            go_ret
            exact ⟨by rw [H.out]; rfl, rfl⟩
end Go.Proofs.YtbagmjedkcipgaaDoor
namespace Go.Proofs.YtbagmjedkcipgaaDoor
open Go.RowKit

/-- Operands in memory, by their kinds. -/
def ArgsAt (W : World) (A : Option Addr) (ks : List Int) : Prop :=
  ∀ j (h : j < ks.length), ∃ (b off : Nat) (y z : Int) (t : ByteArray) (qa ra : Option Addr) (ql qc rl rc : Nat), A = some ⟨b, off, none⟩ ∧ b < W.heap.size ∧
    W.cell? ⟨b, off + j * 6, none⟩ = some (.int .i64 ks[j]) ∧ W.cell? ⟨b, off + j * 6 + 1, none⟩ = some (.int .i64 y) ∧ W.cell? ⟨b, off + j * 6 + 2, none⟩ = some (.int .i64 z) ∧ W.cell? ⟨b, off + j * 6 + 3, none⟩ = some (.string t) ∧
    W.cell? ⟨b, off + j * 6 + 4, none⟩ = some (.slice qa ql qc) ∧ W.cell? ⟨b, off + j * 6 + 5, none⟩ = some (.slice ra rl rc)
theorem ArgsAt.below {W W' : World} {A : Option Addr} {ks : List Int} (h : ArgsAt W A ks) (hb : Below W.heap.size W W') : ArgsAt W' A ks := fun j hj => by
  obtain ⟨b, off, y, z, t, qa, ra, ql, qc, rl, rc, e, hlt, h0, h1, h2, h3, h4, h5⟩ := h j hj
  exact ⟨b, off, y, z, t, qa, ra, ql, qc, rl, rc, e, Nat.lt_of_lt_of_le hlt hb.size, (hb.cell (p := ⟨b, _, none⟩) hlt).trans h0, (hb.cell (p := ⟨b, _, none⟩) hlt).trans h1, (hb.cell (p := ⟨b, _, none⟩) hlt).trans h2, (hb.cell (p := ⟨b, _, none⟩) hlt).trans h3, (hb.cell (p := ⟨b, _, none⟩) hlt).trans h4, (hb.cell (p := ⟨b, _, none⟩) hlt).trans h5⟩
def fits (ks : List Int) (L : List UInt8) (k : Nat) : Bool := (List.range k).all fun j => matchK (ks.getD j 0) ((L.getD j 0).toNat : Int)
theorem fits_no {ks : List Int} {L : List UInt8} {k n : Nat} (h : fits ks L (k + 1) = false) (hk : k < n) : fits ks L n = false := by
  unfold fits at *
  rw [List.all_eq_false] at *
  obtain ⟨j, hj, h1⟩ := h
  exact ⟨j, List.mem_range.2 (by have := List.mem_range.1 hj; omega), h1⟩
/-- What Check answers. -/
def chkOp (name data : List UInt8) (ks : List Int) : Int := if takesL name = [63] then 28 else if ks.length ≠ (takesL name).length then 28 else if fits ks (takesL name) ks.length = false then 28 else if data ≠ [] ∧ name ≠ [66, 73] then 3 else 0

set_option maxRecDepth 100000 in
set_option maxHeartbeats 4000000 in
theorem opCheck_any (name data : ByteArray) (A : Option Addr) (ca : Nat) (ks : List Int) (w : World) (hA : ArgsAt w A ks) (hk : ks.length ≤ 9223372036854775807) (hsp : SpaceAt w) (hg : 0 < w.heap.size) :
    Calls Tryd.prog 21 #[.agg #[.string name, .slice A ks.length ca, .string data]] w fun e w' => e = .returned (.int .i64 (chkOp name.data.toList data.data.toList ks)) ∧ Below w.heap.size w w' := by
  obtain ⟨N, hN⟩ : ∃ N, w.heap.size = N := ⟨_, rfl⟩
  obtain ⟨V, hV⟩ : ∃ V, w.alloc (.cells #[.string name, .slice A ks.length ca, .string data] 33) = V := ⟨_, rfl⟩
  have b0 : Blk V N 33 #[.string name, .slice A ks.length ca, .string data] := by rw [← hV, ← hN]; exact Blk.new w _ _
  have hBV : Below N w V := by rw [← hV, ← hN]; exact (Below.refl _ w).alloc (Nat.le_refl _) _
  have hVs : V.heap.size = N + 1 := by rw [← hV, World.size_alloc, hN]
  have HT := Lib.hid (takes_any name V (hsp.below hBV (by rw [← hN]; exact hg)) (by omega))
  have HV := Lib.hid (And.intro b0 (And.intro hBV hVs))
  obtain ⟨L, hL⟩ : ∃ L, takesL name.data.toList = L := ⟨_, rfl⟩
  obtain ⟨LS, hLS⟩ : ∃ LS : ByteArray, (⟨L.toArray⟩ : ByteArray) = LS := ⟨_, rfl⟩
  have hLd : LS.data.toList = L := by rw [← hLS]
  have hLn : LS.size = L.length := by rw [← hLS]; rfl
  rw [hL, hLS] at HT
  have hz : chkOp name.data.toList data.data.toList ks = if L = [63] then 28 else if ks.length ≠ L.length then 28 else if fits ks L ks.length = false then 28 else if data.data.toList ≠ [] ∧ name.data.toList ≠ [66, 73] then 3 else 0 := by unfold chkOp; rw [hL]
  obtain ⟨z, hzz⟩ : ∃ z, chkOp name.data.toList data.data.toList ks = z := ⟨_, rfl⟩
  rw [hzz] at hz ⊢
  have HZ := Lib.hid hz
  have c0 := b0.cell 0
  obtain ⟨n, hn⟩ : ∃ n, ks.length = n := ⟨_, rfl⟩
  rw [hn] at HV c0 b0 ⊢
  rw [hN]
  clear hL hz hzz hBV
  by_cases h63 : L = [63]
  · have q1 : (LS.toList == [63]) = true := by rw [ByteArray.toList_eq, hLd, h63]; rfl
    have HZ1 := Lib.hid (show z = 28 by rw [HZ.out, if_pos h63])
    rw [hn] at hV
    go_enter Tryd.func21, Tryd.ntmps21
    go_wp2_with fail
    rw [hVs] at HT
    refine HT.out.mono ?_
    rintro e w1 ⟨rfl, hb⟩
    have HB1 := Lib.hid (HV.out.2.1.trans (hb.mono (by omega)))
    clear hb
    go_wp2_with fail
    go_ret
    exact ⟨by rw [HZ1.out] <;> rfl, HB1.out⟩
  · have q1 : (LS.toList == [63]) = false := by rw [ByteArray.toList_eq, hLd]; simpa using h63
    have HZ := Lib.hid (show z = if n ≠ L.length then 28 else if fits ks L n = false then 28 else if data.data.toList ≠ [] ∧ name.data.toList ≠ [66, 73] then 3 else 0 by rw [HZ.out, if_neg h63, hn])
    rw [hn] at hV
    rw [hVs] at HT
    by_cases hln : n = L.length
    · have hnL : (n : Int) = (LS.size : Int) := by omega
      have HZ := Lib.hid (show z = if fits ks L n = false then 28 else if data.data.toList ≠ [] ∧ name.data.toList ≠ [66, 73] then 3 else 0 by rw [HZ.out, if_neg (by omega)])
      have HNN := Lib.hid hN
      have HA := Lib.hid (fun W (hb : Below N w W) => hA.below (W' := W) (by rw [hN]; exact hb))
      have HKn := Lib.hid hn
      have HLd := Lib.hid hLd
      have HLn := Lib.hid hLn
      have HLS := Lib.hid hln
      have hnbI : (n : Int) ≤ 9223372036854775807 := by omega
      clear hA hLS hLd hLn hln hn
      go_enter Tryd.func21, Tryd.ntmps21
      go_wp2_with fail
      refine HT.out.mono ?_
      rintro e w1 ⟨rfl, hb⟩
      have HB1 := Lib.hid (show Below N w w1 ∧ Blk w1 N 33 #[.string name, .slice A n ca, .string data] from ⟨HV.out.2.1.trans (hb.mono (by omega)), HV.out.1.below hb (by omega)⟩)
      have c1 := HB1.out.2.cell 1
      clear hb c0 b0 hV hVs HV HT
      go_wp2_with fail
      go_loopw [22] (fun iv wr => ∃ k : Nat, k ≤ n ∧ iv = .int .i64 (k : Int) ∧ Hid (Below N w wr ∧ Blk wr N 33 #[.string name, .slice A n ca, .string data] ∧ fits ks L k = true)) (fun iv _ => n - (intOf iv).toNat)
      case atStart => exact ⟨0, by omega, rfl, Lib.hid ⟨HB1.out.1, HB1.out.2, rfl⟩⟩
      case round =>
        clear HB1 c1
        obtain ⟨k, hk', rfl, HI⟩ := hrel
        by_cases hlt : k < n
        · have hkl : k < ks.length := by rw [HKn.out]; exact hlt
          have hik : (k : Int) < (n : Int) := by omega
          have hik0 : (0 : Int) ≤ (k : Int) := by omega
          have hil : (k : Int) < (LS.size : Int) := by omega
          obtain ⟨b, off, y, u, t, qa, ra, ql, qc, rl, rc, rfl, hbw, e0, e1, e2, e3, e4, e5⟩ := (HA.out _ HI.out.1) k hkl
          have hkL : k < L.length := by have := HLS.out; omega
          have HFt := Lib.hid (show fits ks L (k + 1) = (fits ks L k && matchK (ks.getD k 0) ((L.getD k 0).toNat : Int)) by unfold fits; rw [List.range_succ, List.all_append]; simp)
          have hkd : ks.getD k 0 = ks[k] := by simp [List.getD, hkl]
          have hLk : (L.getD k 0) = LS[k]'(by have := HLn.out; omega) := by
            rw [List.getD_eq_getElem?_getD, List.getElem?_eq_getElem hkL]
            show L[k] = _
            have h3 : LS.data.toList[k]'(by rw [HLd.out]; exact hkL) = LS[k]'(by have := HLn.out; omega) := rfl
            rw [← h3]
            simp [HLd.out]
          rw [hkd, hLk, HI.out.2.2, Bool.true_and] at HFt
          obtain ⟨x, hx⟩ : ∃ x, ks[k] = x := ⟨_, rfl⟩
          obtain ⟨cb, hcb⟩ : ∃ cb, (LS[k]'(by have := HLn.out; omega)).toNat = cb := ⟨_, rfl⟩
          rw [hx] at e0 HFt
          rw [hcb] at HFt
          have HMt := Lib.hid (fun W : World => matches_any x (cb : Int) W)
          obtain ⟨mb, hmb⟩ : ∃ mb, matchK x (cb : Int) = mb := ⟨_, rfl⟩
          rw [hmb] at HMt HFt
          clear hx hmb hkd hLk
          have hBn := Lib.hid (show Below N w (wr.alloc (.cells #[.int .i64 x, .int .i64 y, .int .i64 u, .string t, .slice qa ql qc, .slice ra rl rc] 50)) ∧ Blk (wr.alloc (.cells #[.int .i64 x, .int .i64 y, .int .i64 u, .string t, .slice qa ql qc, .slice ra rl rc] 50)) N 33 #[.string name, .slice (some ⟨b, off, none⟩) n ca, .string data] from ⟨HI.out.1.alloc (by have := HI.out.2.1.lt; omega) _, HI.out.2.1.alloc _⟩)
          have HU0 := Lib.hid ((Blk.new wr 50 #[.int .i64 x, .int .i64 y, .int .i64 u, .string t, .slice qa ql qc, .slice ra rl rc]).cell 0)
          cases mb with
          | true =>
            go_wp2_with fail
            obtain ⟨U, hU⟩ : ∃ U, wr.alloc (.cells #[.int .i64 x, .int .i64 y, .int .i64 u, .string t, .slice qa ql qc, .slice ra rl rc] 50) = U := ⟨_, rfl⟩
            have d0 := HU0.out
            rw [hU] at d0 hBn ⊢
            clear hU
            go_quiet ((go_at_call 54; exact Calls.quiet_of_same (same_q (HMt.out _))))
            go_wp2
            go_roundw
            case rel => exact ⟨k + 1, by omega, by go_num, Lib.hid ⟨below_drewN hBn.out.1 _, Blk.drewN hBn.out.2 _, HFt.out⟩⟩
            case measure => simp [intOf]; omega
          | false =>
            have HZ1 := Lib.hid (show z = 28 by rw [HZ.out, if_pos (fits_no HFt.out hlt)])
            go_wp2_with fail
            obtain ⟨U, hU⟩ : ∃ U, wr.alloc (.cells #[.int .i64 x, .int .i64 y, .int .i64 u, .string t, .slice qa ql qc, .slice ra rl rc] 50) = U := ⟨_, rfl⟩
            have d0 := HU0.out
            rw [hU] at d0 hBn ⊢
            clear hU
            go_quiet ((go_at_call 54; exact Calls.quiet_of_same (same_q (HMt.out _))))
            go_wp2
            go_ret
            exact ⟨by rw [HZ1.out] <;> rfl, below_drewN hBn.out.1 _⟩
        · obtain rfl : k = n := by omega
          have HZ := Lib.hid (show z = if data.data.toList ≠ [] ∧ name.data.toList ≠ [66, 73] then 3 else 0 by rw [HZ.out, HI.out.2.2, if_neg (by decide)])
          have c0 := HI.out.2.1.cell 0
          have c2 := HI.out.2.1.cell 2
          by_cases hd : data.data.toList = []
          · have q2 : (data.toList == []) = true := by rw [ByteArray.toList_eq, hd]; rfl
            have q3 : data.toList = [] := by rw [ByteArray.toList_eq, hd]
            have HZ1 := Lib.hid (show z = 0 by rw [HZ.out, if_neg (fun h => h.1 hd)])
            clear hd
            go_wp2_with fail
            go_ret
            exact ⟨by rw [HZ1.out] <;> rfl, HI.out.1⟩
          · have q2 : (data.toList == []) = false := by rw [ByteArray.toList_eq]; simpa using hd
            by_cases hm : name.data.toList = [66, 73]
            · have q3 : (name.toList == [66, 73]) = true := by rw [ByteArray.toList_eq, hm]; rfl
              have HZ1 := Lib.hid (show z = 0 by rw [HZ.out, if_neg (fun h => h.2 hm)])
              clear hd hm
              go_wp2_with fail
              go_ret
              exact ⟨by rw [HZ1.out] <;> rfl, HI.out.1⟩
            · have q3 : (name.toList == [66, 73]) = false := by rw [ByteArray.toList_eq]; simpa using hm
              have HZ1 := Lib.hid (show z = 3 by rw [HZ.out, if_pos ⟨hd, hm⟩])
              clear hd hm
              go_wp2_with fail
              go_ret
              exact ⟨by rw [HZ1.out] <;> rfl, HI.out.1⟩
    · have hnI : ¬ (n : Int) = (LS.size : Int) := by omega
      have hnb : ((n : Int) == (LS.size : Int)) = false := by simpa using hnI
      have HZ1 := Lib.hid (show z = 28 by rw [HZ.out, if_pos hln])
      go_enter Tryd.func21, Tryd.ntmps21
      go_wp2_with fail
      refine HT.out.mono ?_
      rintro e w1 ⟨rfl, hb⟩
      have HB1 := Lib.hid (HV.out.2.1.trans (hb.mono (by omega)))
      have c0' := (HV.out.1.below hb (by omega)).cell 1
      clear hb
      go_wp2_with fail
      go_ret
      exact ⟨by rw [HZ1.out] <;> rfl, HB1.out⟩
end Go.Proofs.YtbagmjedkcipgaaDoor
namespace Go.Proofs.YtbagmjedkcipgaaDoor
open Go.RowKit

set_option maxRecDepth 100000 in
theorem change_q (w : World) : Calls Tryd.prog 20 #[.string ⟨#[113]⟩] w fun e w' => e = .returned (.func (.func 28) #[] #[]) ∧ w = w' := by
  go_enter Tryd.func20, Tryd.ntmps20
  go_wp2_with fail
  go_ret
  exact ⟨rfl, rfl⟩
set_option maxRecDepth 100000 in
theorem change_Q (w : World) : Calls Tryd.prog 20 #[.string ⟨#[81]⟩] w fun e w' => e = .returned (.func (.func 30) #[] #[]) ∧ w = w' := by
  go_enter Tryd.func20, Tryd.ntmps20
  go_wp2_with fail
  go_ret
  exact ⟨rfl, rfl⟩
set_option maxRecDepth 100000 in
theorem change_w (w : World) : Calls Tryd.prog 20 #[.string ⟨#[119]⟩] w fun e w' => e = .returned (.func (.func 36) #[] #[]) ∧ w = w' := by
  go_enter Tryd.func20, Tryd.ntmps20
  go_wp2_with fail
  go_ret
  exact ⟨rfl, rfl⟩
set_option maxRecDepth 100000 in
theorem change_J (w : World) : Calls Tryd.prog 20 #[.string ⟨#[74]⟩] w fun e w' => e = .returned (.func (.func 39) #[] #[]) ∧ w = w' := by
  go_enter Tryd.func20, Tryd.ntmps20
  go_wp2_with fail
  go_ret
  exact ⟨rfl, rfl⟩
set_option maxRecDepth 100000 in
theorem change_rg (w : World) : Calls Tryd.prog 20 #[.string ⟨#[114, 103]⟩] w fun e w' => e = .returned (.func (.func 48) #[] #[]) ∧ w = w' := by
  go_enter Tryd.func20, Tryd.ntmps20
  go_wp2_with fail
  go_ret
  exact ⟨rfl, rfl⟩
set_option maxRecDepth 100000 in
theorem change_l (w : World) : Calls Tryd.prog 20 #[.string ⟨#[108]⟩] w fun e w' => e = .returned (Value.nilFunc) ∧ w = w' := by
  have HT : Hid (∀ W, Calls Tryd.prog 52 #[.string ⟨#[108]⟩] W fun e w' => e = .returned (Value.nilFunc) ∧ W = w') := Lib.hid (fun W => by
    go_enter Tryd.func52, Tryd.ntmps52
    go_wp2_with fail
    go_ret
    exact ⟨rfl, rfl⟩)
  go_enter Tryd.func20, Tryd.ntmps20
  go_wp2_with fail
  refine (HT.out _).mono ?_
  rintro e w1 ⟨rfl, rfl⟩
  go_wp2_with fail
  go_ret
  exact ⟨rfl, rfl⟩
end Go.Proofs.YtbagmjedkcipgaaDoor
namespace Go.Proofs.YtbagmjedkcipgaaDoor
open Go.RowKit

/-- A row of numbers in memory. -/
def NAt (w : World) (A : Option Addr) (l : List Int) : Prop :=
  ∀ j (h : j < l.length), ∃ b off : Nat, A = some ⟨b, off, none⟩ ∧ b < w.heap.size ∧ w.cell? ⟨b, off + j, none⟩ = some (.int .i64 l[j])
theorem NAt.below {w w' : World} {A : Option Addr} {l : List Int} (h : NAt w A l) (hb : Below w.heap.size w w') : NAt w' A l := fun j hj => by
  obtain ⟨b, off, ha, hlt, h1⟩ := h j hj
  exact ⟨b, off, ha, Nat.lt_of_lt_of_le hlt hb.size, (hb.cell (p := ⟨b, _, none⟩) hlt).trans h1⟩
theorem take_eq_snoc {l m : List Int} {k : Nat} (h1 : k < l.length) (h2 : k < m.length) (h : l.take k = m.take k) (e : l[k] = m[k]) : l.take (k + 1) = m.take (k + 1) := by
  rw [List.take_succ_eq_append_getElem h1, List.take_succ_eq_append_getElem h2, h, e]

set_option maxRecDepth 100000 in
set_option maxHeartbeats 4000000 in
theorem equal64_any (A B : Option Addr) (ca cb : Nat) (l m : List Int) (w : World) (hA : NAt w A l) (hB : NAt w B m) (hl : l.length ≤ 1000000000) :
    Calls Tryd.prog 25 #[.slice A l.length ca, .slice B m.length cb] w fun e w' => e = .returned (.bool (decide (l = m))) ∧ Below w.heap.size w w' := by
  obtain ⟨z, hz⟩ : ∃ z, decide (l = m) = z := ⟨_, rfl⟩
  have HZ := Lib.hid hz
  rw [hz]
  obtain ⟨p, hp⟩ : ∃ p, l.length = p := ⟨_, rfl⟩
  obtain ⟨q, hq⟩ : ∃ q, m.length = q := ⟨_, rfl⟩
  have HP := Lib.hid hp
  have HQ := Lib.hid hq
  by_cases hpq : p = q
  · subst hpq
    have HA := Lib.hid hA
    have HB := Lib.hid hB
    rw [hp, hq]
    have hpI : (p : Int) ≤ 1000000000 := by omega
    clear hA hB hp hq hz hl
    go_enter Tryd.func25, Tryd.ntmps25
    go_wp2_with fail
    go_loopw [13] (fun iv wr => ∃ k : Nat, k ≤ p ∧ iv = .int .i64 (k : Int) ∧ Hid (Below w.heap.size w wr) ∧ Hid (l.take k = m.take k)) (fun iv _ => p - (intOf iv).toNat)
    case atStart => exact ⟨0, by omega, rfl, Lib.hid (Below.refl _ _), Lib.hid rfl⟩
    case round =>
      obtain ⟨k, hk, rfl, HW, HE⟩ := hrel
      by_cases hlt : k < p
      · have hkl : k < l.length := by rw [HP.out]; exact hlt
        have hkm : k < m.length := by rw [HQ.out]; exact hlt
        have hik : (k : Int) < (p : Int) := by omega
        have hik0 : (0 : Int) ≤ (k : Int) := by omega
        obtain ⟨b1, o1, rfl, _, c0⟩ := (HA.out.below HW.out) k hkl
        obtain ⟨b2, o2, rfl, _, c1⟩ := (HB.out.below HW.out) k hkm
        by_cases hx : l[k] = m[k]
        · have HE2 := Lib.hid (take_eq_snoc hkl hkm HE.out hx)
          rw [hx] at c0
          obtain ⟨x, hxx⟩ : ∃ x, m[k] = x := ⟨_, rfl⟩
          rw [hxx] at c0 c1
          clear hx hxx
          go_wp2_with fail
          go_quiet (fail)
          go_wp2
          go_roundw
          case rel => exact ⟨k + 1, by omega, by go_num, Lib.hid (below_drewN HW.out _), HE2⟩
          case measure => simp [intOf]; omega
        · have HF := Lib.hid (show z = false by
            rw [← HZ.out]
            exact decide_eq_false (fun e => hx (by simp only [e])))
          obtain ⟨x, hxx⟩ : ∃ x, l[k] = x := ⟨_, rfl⟩
          obtain ⟨y, hyy⟩ : ∃ y, m[k] = y := ⟨_, rfl⟩
          rw [hxx] at c0 hx
          rw [hyy] at c1 hx
          clear hxx hyy
          go_wp2_with fail
          go_quiet (fail)
          go_wp2
          go_ret
          exact ⟨by rw [HF.out] <;> rfl, below_drewN HW.out _⟩
      · obtain rfl : k = p := by omega
        have HF := Lib.hid (show z = true by
          rw [← HZ.out]
          have h := HE.out
          rw [show l.take k = l by rw [← HP.out, List.take_length], show m.take k = m by rw [← HQ.out, List.take_length]] at h
          exact decide_eq_true h)
        go_wp2_with fail
        go_ret
        exact ⟨by rw [HF.out] <;> rfl, HW.out⟩
  · have hpqI : ¬ (p : Int) = (q : Int) := by omega
    have HF := Lib.hid (show z = false by
      rw [← HZ.out]
      exact decide_eq_false (fun e => hpq (by rw [← HP.out, ← HQ.out, e])))
    rw [hp, hq]
    clear hA hB hp hq hz hl hpq
    go_enter Tryd.func25, Tryd.ntmps25
    go_wp2_with fail
    go_ret
    exact ⟨by rw [HF.out] <;> rfl, Below.refl _ _⟩
end Go.Proofs.YtbagmjedkcipgaaDoor
