/-
  code's pairs: each two neighbours of a row put together.
-/
import Derived.Test.YtbgechfmbogbpaaCodR
import Derived.Test.YtbgechfmbogbpaaCodQ
import Derived.Test.YtbgechfmbogbpaaRgIn
namespace Go.Proofs.Ytbgechfmbogbpaa
open Go.RowKit Cod Go.Shelf
attribute [local go_sem] Oper.semAt_some
attribute [-go_sem] Builtin.append_

def pairAt (l : List C2) (k : Nat) : C2 := ((l.getD (2 * k) dC).1 + (l.getD (2 * k + 1) dC).1, true)
/-- The pairs of the chunks of these numbers. -/
def pairsOf (l : List C2) (is : List Nat) : List C2 := (is.filter fun k => decide (2 * k + 2 ≤ l.length)).map (pairAt l)
theorem pairsOf_hit {l : List C2} {is : List Nat} {k : Nat} (h : 2 * k + 2 ≤ l.length) : pairsOf l (is ++ [k]) = pairsOf l is ++ [pairAt l k] := by simp [pairsOf, h]
theorem pairsOf_miss {l : List C2} {is : List Nat} {k : Nat} (h : ¬ 2 * k + 2 ≤ l.length) : pairsOf l (is ++ [k]) = pairsOf l is := by simp [pairsOf, h]
theorem pairsOf_len (l : List C2) (is : List Nat) : (pairsOf l is).length ≤ is.length := by unfold pairsOf; rw [List.length_map]; exact List.length_filter_le _ _
def pairsL (l : List C2) : List C2 := pairsOf l (List.range ((l.length + 1) / 2))

set_option maxRecDepth 100000 in
set_option maxHeartbeats 2000000 in
theorem pairs_any (R cap : Nat) (l : List C2) (w : World) (h : KAt w.heap.size w (some ⟨R, 0, none⟩) l) (_hR : R < w.heap.size) (hcap : l.length ≤ cap) (hl : l.length ≤ 100) (hw : ∀ c ∈ l, 0 ≤ c.1 ∧ c.1 ≤ 1000000000) :
    Calls Try.prog 52 #[.slice (some ⟨R, 0, none⟩) l.length cap] w fun e w' => ∃ A C, e = .returned (.slice A (pairsL l).length C) ∧ OwnK w' w.heap.size (.slice A (pairsL l).length C) (pairsL l).length (pairsL l) ∧ Below w.heap.size w w' := by
  obtain ⟨i0, hi, hz0, hz1, hz2⟩ := info_parts infoK
  obtain ⟨N, hN⟩ : ∃ N, w.heap.size = N := ⟨_, rfl⟩
  rw [hN] at h _hR ⊢
  have HKA := Lib.hid h
  have HW := Lib.hid hw
  obtain ⟨n, hn⟩ : ∃ n, l.length = n := ⟨_, rfl⟩
  have HN := Lib.hid hn
  have HPL := Lib.hid (show pairsL l = pairsOf l (List.range ((n + 1) / 2)) by unfold pairsL; rw [hn])
  rw [hn] at hl hcap ⊢
  clear h hw
  refine (callsIn_wide (n := 6)).1 ?_
  refine callsIn_of_wp_marks Try.func52 rfl trivial ?_ rfl
  simp only [Try.ntmps52, List.size_toArray, List.length_cons, List.length_nil, Nat.reduceAdd, Nat.reduceSub, Array.replicate_succ, Array.replicate_zero, List.push_toArray, List.append_toArray, List.nil_append, List.cons_append]
  gi_wp2_with (refine ⟨trivial, ?_⟩; gi_at_call 63; refine (chunk_in _ _ _ _ _).mono ?_; rintro e w' ⟨rfl, rfl⟩)
  obtain ⟨V, hV⟩ : ∃ V, ((w.alloc (.cells #[.slice none 0 0] 65)).alloc (.cells #[.slice (some ⟨R, 0, none⟩) n cap] 65)).alloc (.cells #[.int .i64 2] 3) = V := ⟨_, rfl⟩
  have hVs : V.heap.size = N + 3 := by rw [← hV]; simp [hN]
  have b1 : Boxed V N 65 (.slice none 0 0) := by rw [← hV, ← hN]; exact ((Boxed.new w _ _).alloc _).alloc _
  have b2 : Boxed V (N + 1) 65 (.slice (some ⟨R, 0, none⟩) n cap) := by
    rw [← hV]
    have := Boxed.new (w.alloc (.cells #[.slice none 0 0] 65)) 65 (.slice (some ⟨R, 0, none⟩) n cap)
    rw [World.size_alloc, hN] at this
    exact this.alloc _
  have b3 : Boxed V (N + 2) 3 (.int .i64 2) := by
    rw [← hV]
    have := Boxed.new ((w.alloc (.cells #[.slice none 0 0] 65)).alloc (.cells #[.slice (some ⟨R, 0, none⟩) n cap] 65)) 3 (.int .i64 2)
    rw [World.size_alloc, World.size_alloc, hN] at this
    exact this
  have hB0 : Below N w V := by
    rw [← hV, ← hN]
    exact (((Below.refl _ w).alloc (Nat.le_refl _) _).alloc (by simp) _).alloc (by simp; omega) _
  rw [hV]
  refine wpIn_rangeFunc_ownG rfl (by omega) (gf := 70) (lb := #[.pointer (some ⟨N + 1, 0, none⟩), .pointer (some ⟨N + 1 + 1, 0, none⟩)]) rfl trivial (enters_of Try.func70 (by kernel_rfl) rfl)
    (chunk_stops _ (by omega) (N + 1) (N + 1 + 1) R n cap hcap (by omega) (fun b => b < N ∨ b = N + 1 ∨ b = N + 2) V (Or.inr (Or.inl rfl)) (Or.inr (Or.inr rfl)) (by omega) (by omega) b2.cell b3.cell)
    (fun h k => h.trans k) (fun W l o o' hl _ _ _ b hb => World.putObj_heap_other (by rcases hb with h | h | h <;> omega)) (Below.refl _ _) (fun _ => rfl)
    (fun pre W => ((∃ v, Boxed W N 65 v ∧ W.ownsRow N 85 2 v (pairsOf l (pre.map (·.1))).length (kC (pairsOf l (pre.map (·.1)))) ∧ True) ∧ (Boxed W (N + 1) 65 (.slice (some ⟨R, 0, none⟩) n cap) ∧ Boxed W (N + 2) 3 (.int .i64 2))) ∧ Below N w W)
    (fun _ _ _ => False)
    (OwnFrom.and (OwnFrom.and (Own.from (holdsRow_own N N 65 85 2 (fun pre : List (At2 n) => (pairsOf l (pre.map (·.1))).length) (fun pre : List (At2 n) => kC (pairsOf l (pre.map (·.1)))) (fun _ _ => True)) _)
      (OwnFrom.and (Own.from (boxed_own _ _ _) _) (Own.from (boxed_own _ _ _) _))) (ownFrom_below (by omega) (by omega)))
    (fun _ _ _ _ _ hs _ _ => hs)
    ⟨⟨⟨_, b1, by simp [pairsOf, kC]; exact World.ownsRow_nil V N 85 2, trivial⟩, b2, b3⟩, hB0⟩
    (fun x => { tmps := #[.slice (some ⟨R, 0, none⟩) n cap, undef, .slice none 0 0, .pointer (some ⟨N, 0, none⟩), .slice (some ⟨R, 2 * x.1 * 2, none⟩) (two n x.1) (two n x.1), .slice (some ⟨R, 0, none⟩) n cap, .func (.func 70) #[] #[.pointer (some ⟨N + 1, 0, none⟩), .pointer (some ⟨N + 1 + 1, 0, none⟩)], .slice (some ⟨R, 2 * x.1 * 2, none⟩) (two n x.1) (two n x.1), undef, undef, undef, undef, undef, undef, undef, undef, undef, undef, undef, undef, undef, undef, undef, undef, undef], defers := [] }) ?assign ?body ?done ?stop
  case assign =>
    intro l x W K hK
    dsimp only [encK]
    gi_wp2
    exact hK
  case body =>
    rintro lp (pre : List (At2 n)) ⟨k, hk2⟩ W ⟨⟨⟨v, hv, hrow, _⟩, c2, c3⟩, hB⟩ hlt
    have hcs := c2.cell
    have hlen := pairsOf_len l (pre.map (fun x : At2 n => x.1))
    rw [List.length_map] at hlen
    obtain ⟨E, hE⟩ : ∃ E, pairsOf l (pre.map (fun x : At2 n => x.1)) = E := ⟨_, rfl⟩
    rw [hE] at hrow hlen
    have hBs := hB.size
    have hne2 : some (N + 1) ≠ v.ownBlock := c2.not_row (by decide) hrow
    have hne3 : some (N + 2) ≠ v.ownBlock := c3.not_row (by decide) hrow
    by_cases hfull : 2 * k + 2 ≤ n
    · have ht : two n k = 2 := by unfold two; rw [if_pos hfull]
      have HIT := Lib.hid (show pairsOf l ((pre ++ [(⟨k, hk2⟩ : At2 n)]).map (fun x : At2 n => x.1)) = E ++ [pairAt l k] by
        rw [List.map_append]
        show pairsOf l (pre.map (fun x : At2 n => x.1) ++ [k]) = _
        rw [pairsOf_hit (by rw [HN.out]; exact hfull), hE])
      have hk0 : 2 * k < l.length := by rw [HN.out]; omega
      have hk1 : 2 * k + 1 < l.length := by rw [HN.out]; omega
      obtain ⟨b, off, e, hlt0, x0, _⟩ := (HKA.out.below hB) (2 * k) hk0
      injection e with e
      injection e with e1 e2
      subst e1 e2
      obtain ⟨b, off, e, hlt1, x1, _⟩ := (HKA.out.below hB) (2 * k + 1) hk1
      injection e with e
      injection e with e1 e2
      subst e1 e2
      have hp : pairAt l k = (l[2 * k].1 + l[2 * k + 1].1, true) := by
        unfold pairAt
        rw [show l.getD (2 * k) dC = l[2 * k] by simp [List.getD, hk0], show l.getD (2 * k + 1) dC = l[2 * k + 1] by simp [List.getD, hk1]]
      have hw0 := HW.out _ (List.getElem_mem hk0)
      have hw1 := HW.out _ (List.getElem_mem hk1)
      obtain ⟨y0, hy0⟩ : ∃ y, l[2 * k].1 = y := ⟨_, rfl⟩
      obtain ⟨y1, hy1⟩ : ∃ y, l[2 * k + 1].1 = y := ⟨_, rfl⟩
      rw [hy0, hy1] at hp
      rw [hy0] at x0 hw0
      rw [hy1] at x1 hw1
      obtain ⟨y, hy⟩ : ∃ y, y0 + y1 = y := ⟨_, rfl⟩
      have hwr : IntKind.i64.wrap (y0 + y1) = y := by rw [IntWalk.i64_in _ (by omega)]; exact hy
      rw [hy] at hp
      rw [hp] at HIT
      clear hy
      have z0 : W.cell? ⟨R, 2 * k * 2, none⟩ = some (.int .i64 y0) := by rw [Nat.zero_add] at x0; exact x0
      have z1 : W.cell? ⟨R, 2 * k * 2 + 2, none⟩ = some (.int .i64 y1) := by rw [Nat.zero_add, show (2 * k + 1) * 2 = 2 * k * 2 + 2 by omega] at x1; exact x1
      have hv0 : Boxed W.drew N 65 v := hv
      have hrow0 : W.drew.ownsRow N 85 2 v E.length (kC E) := hrow
      obtain ⟨v2, w2, hrun, hown2, hgrow2, _⟩ := run_append_own (P := Try.prog) (w := W.drew.alloc (.cells #[.int .i64 y, .bool true] 85)) N 65 65 85 i0 (.agg #[.int .i64 0, .bool false]) 2 16 Try.underlying65 hi hz0 hz1 hz2 rfl (by decide) v E.length (kC E) (hrow0.alloc _) ⟨W.heap.size, 0, none⟩ 1 1 [.int .i64 y, .bool true] rfl (World.news_of_block (heap_alloc_new W.drew _)) (by simp [Value.oneCell']) (by unfold maxLen; omega) (by omega) (by simp; omega)
      obtain ⟨g2, cap2, rfl⟩ := ownsRow_succ hown2
      replace hrun : Sem.run Try.prog (Builtin.append_ #[65, 65] 65 #[v, .slice (some ⟨W.heap.size, 0, none⟩) 1 1]) (W.alloc (.cells #[.int .i64 y, .bool true] 85)).drew = .ok (.slice (some ⟨g2, 0, none⟩) (E.length + 1) cap2) w2 := hrun
      obtain ⟨hv1, hv2, hr2, hk2', hb2⟩ := hv0.appended (by decide) hrow0 (by show N ≤ W.heap.size; omega) (by omega) hown2 hgrow2
      have hc := hv.cell
      have hca : (W.alloc (.cells #[.int .i64 y, .bool true] 85)).cell? ⟨N, 0, none⟩ = some v := (hv.alloc _).cell
      have hcb : (W.alloc (.cells #[.int .i64 y, .bool true] 85)).frozen? ⟨N, 0, none⟩ = false := (hv.alloc _).frozen
      have hc1 := hv1.cell
      have hf1 := hv1.frozen
      have hitP : KeepsFrom V.heap.size W (w2.setCell ⟨N, 0, none⟩ (.slice (some ⟨g2, 0, none⟩) (E.length + 1) cap2)) ∧ KeptB (fun b => b < N ∨ b = N + 1 ∨ b = N + 2) W (w2.setCell ⟨N, 0, none⟩ (.slice (some ⟨g2, 0, none⟩) (E.length + 1) cap2)) ∧
          (((∃ v, Boxed (w2.setCell ⟨N, 0, none⟩ (.slice (some ⟨g2, 0, none⟩) (E.length + 1) cap2)) N 65 v ∧ (w2.setCell ⟨N, 0, none⟩ (.slice (some ⟨g2, 0, none⟩) (E.length + 1) cap2)).ownsRow N 85 2 v (pairsOf l ((pre ++ [(⟨k, hk2⟩ : At2 n)]).map (fun x : At2 n => x.1))).length (kC (pairsOf l ((pre ++ [(⟨k, hk2⟩ : At2 n)]).map (fun x : At2 n => x.1)))) ∧ True) ∧
            (Boxed (w2.setCell ⟨N, 0, none⟩ (.slice (some ⟨g2, 0, none⟩) (E.length + 1) cap2)) (N + 1) 65 (.slice (some ⟨R, 0, none⟩) n cap) ∧ Boxed (w2.setCell ⟨N, 0, none⟩ (.slice (some ⟨g2, 0, none⟩) (E.length + 1) cap2)) (N + 2) 3 (.int .i64 2))) ∧
            Below N w (w2.setCell ⟨N, 0, none⟩ (.slice (some ⟨g2, 0, none⟩) (E.length + 1) cap2))) := by
        have far : ∀ (b : Nat) (t : TypeId) (u : Value), Boxed W b t u → some b ≠ v.ownBlock → b ≠ N → Boxed (w2.setCell ⟨N, 0, none⟩ (.slice (some ⟨g2, 0, none⟩) (E.length + 1) cap2)) b t u := fun b t u hb hne hne1 =>
          ((Boxed.alloc (W := W.drew) hb _).kept hgrow2 hne).other hne1 _
        have d2 := far _ _ _ c2 hne2 (by omega)
        have d3 := far _ _ _ c3 hne3 (by omega)
        refine ⟨((KeepsOthers.drew W).trans hk2').from _, ?_, ⟨⟨_, hv2, ?_, trivial⟩, d2, d3⟩, hB.trans ((Below.drew (Below.refl _ _)).trans hb2)⟩
        · rintro b (hb | rfl | rfl)
          · exact hb2.block b hb
          · exact (show _ = _ from d2).trans (show _ = _ from c2).symm
          · exact (show _ = _ from d3).trans (show _ = _ from c3).symm
        · rw [HIT.out, List.length_append, kC_snoc]
          exact hr2
      have HITP := Lib.hid hitP
      have hmx : Try.prog.follows .mixedOrders = true := by kernel_rfl
      rw [ht]
      clear hitP hrow hv hv2 hr2 hk2' hb2 hB hgrow2 c2 c3 hne2 hne3 hv1 hv0 hrow0 hE hown2 hp hw0 hw1 x0 x1 hy0 hy1 ht HIT hlt0 hlt1
      gi_wp2
      refine region_in (by kernel_rfl) (noDefer_spec (by kernel_rfl)) (by rintro ⟨a, w, h⟩; first | exact h | (trace_state; exact h.elim)) ?_
      try (change wpAny _ _ _ _ _ _ _ (World.drew _))
      refine wpAny_take (i := 1) (v := ?v0) rfl (by kernel_rfl) (by kernel_rfl) (by kernel_rfl) (fun _ _ _ h => h) (Or.inl ⟨by rfl, ?hy0⟩) ?rest0
      case hy0 => first | (intro w; go_simp; done) | (intro w; go_simp; with_reducible rfl)
      refine wpAny_take (i := 2) (v := ?v1) rfl (by kernel_rfl) (by kernel_rfl) (by kernel_rfl) (fun _ _ _ h => h) (Or.inl ⟨by rfl, ?hy1⟩) ?rest1
      case hy1 => first | (intro w; go_simp; done) | (intro w; go_simp; with_reducible rfl)
      refine wpAny_take (i := 3) (v := ?v2) rfl (by kernel_rfl) (by kernel_rfl) (by kernel_rfl) (fun _ _ _ h => h) (Or.inl ⟨by rfl, ?hy2⟩) ?rest2
      case hy2 => first | (intro w; go_simp; done) | (intro w; go_simp; with_reducible rfl)
      refine wpAny_take (i := 5) (v := ?v3) rfl (by kernel_rfl) (by kernel_rfl) (by kernel_rfl) (fun _ _ _ h => h) (Or.inl ⟨by rfl, ?hy3⟩) ?rest3
      case hy3 => first | (intro w; go_simp; done) | (intro w; go_simp; with_reducible rfl)
      refine wpAny_take (i := 6) (v := ?v4) rfl (by kernel_rfl) (by kernel_rfl) (by kernel_rfl) (fun _ _ _ h => h) (Or.inl ⟨by rfl, ?hy4⟩) ?rest4
      case hy4 => first | (intro w; go_simp; done) | (intro w; go_simp; with_reducible rfl)
      refine wpAny_take (i := 7) (v := ?v5) rfl (by kernel_rfl) (by kernel_rfl) (by kernel_rfl) (fun _ _ _ h => h) (Or.inl ⟨by rfl, ?hy5⟩) ?rest5
      case hy5 => first | (intro w; go_simp; done) | (intro w; go_simp; with_reducible rfl)
      refine wpAny_ready (rs := [0, 4, 8]) (by kernel_rfl) (by simp) ?_
      refine AllReady.cons rfl (fun K hK => ?_) ?_
      · go_simp
        refine hK _ _ ?_
        clear hK K
        refine wpAny_ready (rs := [4, 8]) (by kernel_rfl) (by simp) ?_
        refine AllReady.cons rfl (fun K hK => ?_) ?_
        · go_simp
          refine hK _ _ ?_
          clear hK K
          refine wpAny_ready (rs := [8]) (by kernel_rfl) (by simp) ?_
          refine AllReady.cons rfl (fun K hK => ?_) ?_
          · go_simp
            refine hK _ _ ?_
            clear hK K
            refine wpAny_take (i := 9) (v := ?v6) rfl (by kernel_rfl) (by kernel_rfl) (by kernel_rfl) (fun _ _ _ h => h) (Or.inl ⟨by rfl, ?hy6⟩) ?rest6
            case hy6 => first | (intro w; go_simp; done) | (intro w; go_simp; with_reducible rfl)
            refine wpAny_take (i := 10) (v := ?v7) rfl (by kernel_rfl) (by kernel_rfl) (by kernel_rfl) (fun _ _ _ h => h) (Or.inl ⟨by rfl, ?hy7⟩) ?rest7
            case hy7 => first | (intro w; go_simp; done) | (intro w; go_simp; with_reducible rfl)
            refine wpAny_ready (rs := [11]) (by kernel_rfl) (by simp) ?_
            refine AllReady.cons rfl (fun K hK => ?_) ?_
            · go_simp
              refine hK _ _ ?_
              clear hK K
              refine wpAny_ready (rs := [12]) (by kernel_rfl) (by simp) ?_
              refine AllReady.cons rfl (fun K hK => ?_) ?_
              · go_simp
                refine hK _ _ ?_
                clear hK K
                refine wpAny_ready (rs := [13]) (by kernel_rfl) (by simp) ?_
                refine AllReady.cons rfl (fun K hK => ?_) ?_
                · go_simp
                  refine hK _ _ ?_
                  clear hK K
                  refine wpAny_done (by kernel_rfl) ?_ _
                  gi_wp2
                  exact HITP.out
                exact AllReady.nil
              exact AllReady.nil
            exact AllReady.nil
          exact AllReady.nil
        refine AllReady.cons rfl (fun K hK => ?_) ?_
        · go_simp
          refine hK _ _ ?_
          clear hK K
          refine wpAny_ready (rs := [4]) (by kernel_rfl) (by simp) ?_
          refine AllReady.cons rfl (fun K hK => ?_) ?_
          · go_simp
            refine hK _ _ ?_
            clear hK K
            refine wpAny_take (i := 9) (v := ?v8) rfl (by kernel_rfl) (by kernel_rfl) (by kernel_rfl) (fun _ _ _ h => h) (Or.inl ⟨by rfl, ?hy8⟩) ?rest8
            case hy8 => first | (intro w; go_simp; done) | (intro w; go_simp; with_reducible rfl)
            refine wpAny_take (i := 10) (v := ?v9) rfl (by kernel_rfl) (by kernel_rfl) (by kernel_rfl) (fun _ _ _ h => h) (Or.inl ⟨by rfl, ?hy9⟩) ?rest9
            case hy9 => first | (intro w; go_simp; done) | (intro w; go_simp; with_reducible rfl)
            refine wpAny_ready (rs := [11]) (by kernel_rfl) (by simp) ?_
            refine AllReady.cons rfl (fun K hK => ?_) ?_
            · go_simp
              refine hK _ _ ?_
              clear hK K
              refine wpAny_ready (rs := [12]) (by kernel_rfl) (by simp) ?_
              refine AllReady.cons rfl (fun K hK => ?_) ?_
              · go_simp
                refine hK _ _ ?_
                clear hK K
                refine wpAny_ready (rs := [13]) (by kernel_rfl) (by simp) ?_
                refine AllReady.cons rfl (fun K hK => ?_) ?_
                · go_simp
                  refine hK _ _ ?_
                  clear hK K
                  refine wpAny_done (by kernel_rfl) ?_ _
                  gi_wp2
                  exact HITP.out
                exact AllReady.nil
              exact AllReady.nil
            exact AllReady.nil
          exact AllReady.nil
        exact AllReady.nil
      refine AllReady.cons rfl (fun K hK => ?_) ?_
      · go_simp
        refine hK _ _ ?_
        clear hK K
        refine wpAny_ready (rs := [0, 8]) (by kernel_rfl) (by simp) ?_
        refine AllReady.cons rfl (fun K hK => ?_) ?_
        · go_simp
          refine hK _ _ ?_
          clear hK K
          refine wpAny_ready (rs := [8]) (by kernel_rfl) (by simp) ?_
          refine AllReady.cons rfl (fun K hK => ?_) ?_
          · go_simp
            refine hK _ _ ?_
            clear hK K
            refine wpAny_take (i := 9) (v := ?v10) rfl (by kernel_rfl) (by kernel_rfl) (by kernel_rfl) (fun _ _ _ h => h) (Or.inl ⟨by rfl, ?hy10⟩) ?rest10
            case hy10 => first | (intro w; go_simp; done) | (intro w; go_simp; with_reducible rfl)
            refine wpAny_take (i := 10) (v := ?v11) rfl (by kernel_rfl) (by kernel_rfl) (by kernel_rfl) (fun _ _ _ h => h) (Or.inl ⟨by rfl, ?hy11⟩) ?rest11
            case hy11 => first | (intro w; go_simp; done) | (intro w; go_simp; with_reducible rfl)
            refine wpAny_ready (rs := [11]) (by kernel_rfl) (by simp) ?_
            refine AllReady.cons rfl (fun K hK => ?_) ?_
            · go_simp
              refine hK _ _ ?_
              clear hK K
              refine wpAny_ready (rs := [12]) (by kernel_rfl) (by simp) ?_
              refine AllReady.cons rfl (fun K hK => ?_) ?_
              · go_simp
                refine hK _ _ ?_
                clear hK K
                refine wpAny_ready (rs := [13]) (by kernel_rfl) (by simp) ?_
                refine AllReady.cons rfl (fun K hK => ?_) ?_
                · go_simp
                  refine hK _ _ ?_
                  clear hK K
                  refine wpAny_done (by kernel_rfl) ?_ _
                  gi_wp2
                  exact HITP.out
                exact AllReady.nil
              exact AllReady.nil
            exact AllReady.nil
          exact AllReady.nil
        refine AllReady.cons rfl (fun K hK => ?_) ?_
        · go_simp
          refine hK _ _ ?_
          clear hK K
          refine wpAny_take (i := 9) (v := ?v12) rfl (by kernel_rfl) (by kernel_rfl) (by kernel_rfl) (fun _ _ _ h => h) (Or.inl ⟨by rfl, ?hy12⟩) ?rest12
          case hy12 => first | (intro w; go_simp; done) | (intro w; go_simp; with_reducible rfl)
          refine wpAny_take (i := 10) (v := ?v13) rfl (by kernel_rfl) (by kernel_rfl) (by kernel_rfl) (fun _ _ _ h => h) (Or.inl ⟨by rfl, ?hy13⟩) ?rest13
          case hy13 => first | (intro w; go_simp; done) | (intro w; go_simp; with_reducible rfl)
          refine wpAny_ready (rs := [0, 11]) (by kernel_rfl) (by simp) ?_
          refine AllReady.cons rfl (fun K hK => ?_) ?_
          · go_simp
            refine hK _ _ ?_
            clear hK K
            refine wpAny_ready (rs := [11]) (by kernel_rfl) (by simp) ?_
            refine AllReady.cons rfl (fun K hK => ?_) ?_
            · go_simp
              refine hK _ _ ?_
              clear hK K
              refine wpAny_ready (rs := [12]) (by kernel_rfl) (by simp) ?_
              refine AllReady.cons rfl (fun K hK => ?_) ?_
              · go_simp
                refine hK _ _ ?_
                clear hK K
                refine wpAny_ready (rs := [13]) (by kernel_rfl) (by simp) ?_
                refine AllReady.cons rfl (fun K hK => ?_) ?_
                · go_simp
                  refine hK _ _ ?_
                  clear hK K
                  refine wpAny_done (by kernel_rfl) ?_ _
                  gi_wp2
                  exact HITP.out
                exact AllReady.nil
              exact AllReady.nil
            exact AllReady.nil
          refine AllReady.cons rfl (fun K hK => ?_) ?_
          · go_simp
            refine hK _ _ ?_
            clear hK K
            refine wpAny_ready (rs := [0]) (by kernel_rfl) (by simp) ?_
            refine AllReady.cons rfl (fun K hK => ?_) ?_
            · go_simp
              refine hK _ _ ?_
              clear hK K
              refine wpAny_ready (rs := [12]) (by kernel_rfl) (by simp) ?_
              refine AllReady.cons rfl (fun K hK => ?_) ?_
              · go_simp
                refine hK _ _ ?_
                clear hK K
                refine wpAny_ready (rs := [13]) (by kernel_rfl) (by simp) ?_
                refine AllReady.cons rfl (fun K hK => ?_) ?_
                · go_simp
                  refine hK _ _ ?_
                  clear hK K
                  refine wpAny_done (by kernel_rfl) ?_ _
                  gi_wp2
                  exact HITP.out
                exact AllReady.nil
              exact AllReady.nil
            exact AllReady.nil
          exact AllReady.nil
        exact AllReady.nil
      refine AllReady.cons rfl (fun K hK => ?_) ?_
      · go_simp
        refine hK _ _ ?_
        clear hK K
        refine wpAny_ready (rs := [0, 4]) (by kernel_rfl) (by simp) ?_
        refine AllReady.cons rfl (fun K hK => ?_) ?_
        · go_simp
          refine hK _ _ ?_
          clear hK K
          refine wpAny_ready (rs := [4]) (by kernel_rfl) (by simp) ?_
          refine AllReady.cons rfl (fun K hK => ?_) ?_
          · go_simp
            refine hK _ _ ?_
            clear hK K
            refine wpAny_take (i := 9) (v := ?v14) rfl (by kernel_rfl) (by kernel_rfl) (by kernel_rfl) (fun _ _ _ h => h) (Or.inl ⟨by rfl, ?hy14⟩) ?rest14
            case hy14 => first | (intro w; go_simp; done) | (intro w; go_simp; with_reducible rfl)
            refine wpAny_take (i := 10) (v := ?v15) rfl (by kernel_rfl) (by kernel_rfl) (by kernel_rfl) (fun _ _ _ h => h) (Or.inl ⟨by rfl, ?hy15⟩) ?rest15
            case hy15 => first | (intro w; go_simp; done) | (intro w; go_simp; with_reducible rfl)
            refine wpAny_ready (rs := [11]) (by kernel_rfl) (by simp) ?_
            refine AllReady.cons rfl (fun K hK => ?_) ?_
            · go_simp
              refine hK _ _ ?_
              clear hK K
              refine wpAny_ready (rs := [12]) (by kernel_rfl) (by simp) ?_
              refine AllReady.cons rfl (fun K hK => ?_) ?_
              · go_simp
                refine hK _ _ ?_
                clear hK K
                refine wpAny_ready (rs := [13]) (by kernel_rfl) (by simp) ?_
                refine AllReady.cons rfl (fun K hK => ?_) ?_
                · go_simp
                  refine hK _ _ ?_
                  clear hK K
                  refine wpAny_done (by kernel_rfl) ?_ _
                  gi_wp2
                  exact HITP.out
                exact AllReady.nil
              exact AllReady.nil
            exact AllReady.nil
          exact AllReady.nil
        refine AllReady.cons rfl (fun K hK => ?_) ?_
        · go_simp
          refine hK _ _ ?_
          clear hK K
          refine wpAny_take (i := 9) (v := ?v16) rfl (by kernel_rfl) (by kernel_rfl) (by kernel_rfl) (fun _ _ _ h => h) (Or.inl ⟨by rfl, ?hy16⟩) ?rest16
          case hy16 => first | (intro w; go_simp; done) | (intro w; go_simp; with_reducible rfl)
          refine wpAny_take (i := 10) (v := ?v17) rfl (by kernel_rfl) (by kernel_rfl) (by kernel_rfl) (fun _ _ _ h => h) (Or.inl ⟨by rfl, ?hy17⟩) ?rest17
          case hy17 => first | (intro w; go_simp; done) | (intro w; go_simp; with_reducible rfl)
          refine wpAny_ready (rs := [0, 11]) (by kernel_rfl) (by simp) ?_
          refine AllReady.cons rfl (fun K hK => ?_) ?_
          · go_simp
            refine hK _ _ ?_
            clear hK K
            refine wpAny_ready (rs := [11]) (by kernel_rfl) (by simp) ?_
            refine AllReady.cons rfl (fun K hK => ?_) ?_
            · go_simp
              refine hK _ _ ?_
              clear hK K
              refine wpAny_ready (rs := [12]) (by kernel_rfl) (by simp) ?_
              refine AllReady.cons rfl (fun K hK => ?_) ?_
              · go_simp
                refine hK _ _ ?_
                clear hK K
                refine wpAny_ready (rs := [13]) (by kernel_rfl) (by simp) ?_
                refine AllReady.cons rfl (fun K hK => ?_) ?_
                · go_simp
                  refine hK _ _ ?_
                  clear hK K
                  refine wpAny_done (by kernel_rfl) ?_ _
                  gi_wp2
                  exact HITP.out
                exact AllReady.nil
              exact AllReady.nil
            exact AllReady.nil
          refine AllReady.cons rfl (fun K hK => ?_) ?_
          · go_simp
            refine hK _ _ ?_
            clear hK K
            refine wpAny_ready (rs := [0]) (by kernel_rfl) (by simp) ?_
            refine AllReady.cons rfl (fun K hK => ?_) ?_
            · go_simp
              refine hK _ _ ?_
              clear hK K
              refine wpAny_ready (rs := [12]) (by kernel_rfl) (by simp) ?_
              refine AllReady.cons rfl (fun K hK => ?_) ?_
              · go_simp
                refine hK _ _ ?_
                clear hK K
                refine wpAny_ready (rs := [13]) (by kernel_rfl) (by simp) ?_
                refine AllReady.cons rfl (fun K hK => ?_) ?_
                · go_simp
                  refine hK _ _ ?_
                  clear hK K
                  refine wpAny_done (by kernel_rfl) ?_ _
                  gi_wp2
                  exact HITP.out
                exact AllReady.nil
              exact AllReady.nil
            exact AllReady.nil
          exact AllReady.nil
        exact AllReady.nil
      exact AllReady.nil
    · have ht : two n k = 1 := by unfold two; rw [if_neg hfull]
      have HMISS := Lib.hid (show pairsOf l ((pre ++ [(⟨k, hk2⟩ : At2 n)]).map (fun x : At2 n => x.1)) = E by
        rw [List.map_append]
        show pairsOf l (pre.map (fun x : At2 n => x.1) ++ [k]) = _
        rw [pairsOf_miss (by rw [HN.out]; exact hfull), hE])
      have HM := Lib.hid (show KeepsFrom V.heap.size W W ∧ KeptB (fun b => b < N ∨ b = N + 1 ∨ b = N + 2) W W ∧
          (((∃ v, Boxed W N 65 v ∧ W.ownsRow N 85 2 v (pairsOf l ((pre ++ [(⟨k, hk2⟩ : At2 n)]).map (fun x : At2 n => x.1))).length (kC (pairsOf l ((pre ++ [(⟨k, hk2⟩ : At2 n)]).map (fun x : At2 n => x.1)))) ∧ True) ∧
            (Boxed W (N + 1) 65 (.slice (some ⟨R, 0, none⟩) n cap) ∧ Boxed W (N + 2) 3 (.int .i64 2))) ∧ Below N w W) from
        ⟨KeepsFrom.refl _ _, KeptB.refl _ _, ⟨⟨_, hv, by rw [HMISS.out]; exact hrow, trivial⟩, c2, c3⟩, hB⟩)
      rw [ht]
      clear hv hrow c2 c3 hB hne2 hne3 hE ht HMISS
      gi_wp2
      exact HM.out
  case done =>
    rintro D ys W hD hys ⟨⟨⟨v, hv, hrow, _⟩, c2, c3⟩, hB⟩ hK
    have hc := hv.cell
    have he : pairsOf l (ys.map (·.1)) = pairsL l := by rw [HPL.out, hys]
    rw [he] at hrow
    gi_wp2
    refine ⟨by simp, .inl ⟨_, _, rfl, run_takeDeferred hK, ?_⟩⟩
    obtain ⟨A, C, rfl⟩ := own_form hrow
    exact ⟨_, results_tmp rfl _ _ _, A, C, rfl, ownsRow_putObj hrow _ hK rfl, hB.trans (belowK_b (w := V) (by omega) W D _ _ hD hK rfl rfl)⟩
  case stop =>
    rintro D c pre W _ _ h _
    exact h.elim
end Go.Proofs.Ytbgechfmbogbpaa
