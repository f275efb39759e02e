/-
  The document's last and Unfive.
-/
import Derived.Test.YthioafndepkhoaaAscP
namespace Go.Proofs.Ythioafndepkhoaa
open Go.RowKit Oct Asc Go.Shelf
attribute [-go_sem] Builtin.append_

/-- Bytes that lie in a block are appended to a row of the call's own; another row of its own stays. -/
theorem app_gen {N q K k c : Nat} {A : Option Addr} {C : Nat} {o : List UInt8} (x : List UInt8) (W : World) (hx : x.length = k) (hk : 0 < k) (hnews : ∀ (j : Nat) u, (cellsOf x)[j]? = some u → W.cell? ((⟨K, 0, none⟩ : Addr).add j) = some u)
    (hown : W.ownsRow N 5 1 (.slice A q C) q (cellsOf o)) (hN : N ≤ W.heap.size) (hqb : q + k ≤ 10000000) :
    ∃ g cap w2, Sem.run Try.prog (Builtin.append_ #[30, 30] 30 #[.slice A q C, .slice (some ⟨K, 0, none⟩) k c]) W = .ok (.slice (some ⟨g, 0, none⟩) (q + k) cap) w2 ∧
      w2.ownsRow N 5 1 (.slice (some ⟨g, 0, none⟩) (q + k) cap) (q + k) (cellsOf (o ++ x)) ∧ Below N W w2 ∧
      ∀ v' n' xs', W.ownsRow N 5 1 v' n' xs' → (v'.ownBlock = none ∨ v'.ownBlock ≠ (Value.slice A q C).ownBlock) → w2.ownsRow N 5 1 v' n' xs' ∧ v'.ownBlock ≠ some g := by
  obtain ⟨i5, hi, hz0, hz1, hz2⟩ := info_parts info5
  obtain ⟨g, cap, w2, hrun, h1, h2, h3, h4⟩ := run_append_lies (P := Try.prog) (w := W) 30 30 N 5 i5 (.int .u8 0) 1 1 Try.underlying30 hi hz0 hz1 hz2 rfl (by decide) (.slice A q C) q (cellsOf o) hown ⟨K, 0, none⟩ k c (cellsOf x) (by rw [cellsOf_len, hx, Nat.mul_one]) hnews (cellsOf_one x) hk (by unfold maxLen; omega) (by omega) hN W.heap.size rfl
  refine ⟨g, cap, w2, hrun, by rw [cellsOf_append]; exact h1, (Below.refl N W).grown h2 hN (fun g h => (hown.lt g h).1), fun v' n' xs' h hne => ⟨h.kept h2 hne, ?_⟩⟩
  intro e
  rcases hne with hne | hne
  · rw [hne] at e; cases e
  · rcases h3 with h5 | h5
    · exact hne (e.trans h5.symm)
    · have := (h.lt g e).2
      omega

set_option maxRecDepth 100000 in
set_option maxHeartbeats 8000000 in
theorem lastR_in (N m : Nat) (o ds : List UInt8) (q p : Nat) (A A' : Option Addr) (C C' : Nat) (F : Int × List UInt8) (w w0 : World) (hq : o.length = q) (hp : ds.length = p) (hp4 : p ≤ 4) (hqm : q ≤ m) (hm : m ≤ 1048576) (hF : F = lastD m o ds) (hb : Below N w0 w) (hN : N ≤ w.heap.size)
    (ho : w.ownsRow N 5 1 (.slice A q C) q (cellsOf o)) (hd : w.ownsRow N 5 1 (.slice A' p C') p (cellsOf ds)) :
    Calls Try.prog 22 #[.slice A' p C', .slice A q C, .int .i64 (m : Int)] w fun e w' => e = .returned (.tuple #[.string (decS F), .int .i64 F.1]) ∧ Below N w0 w' := by
  have HO := Lib.hid ho
  have HQ := Lib.hid hq
  have HP := Lib.hid hp
  have HB := Lib.hid hb
  have HN := Lib.hid hN
  obtain ⟨V, hV⟩ : ∃ V, val5 ds = V := ⟨_, rfl⟩
  have HVal := Lib.hid (fun W (h : W.ownsRow N 5 1 (.slice A' p C') p (cellsOf ds)) => value_in ds p A' C' V N W hp (by omega) hV h)
  have HDs := Lib.hid hd
  clear ho hd hb hN
  unfold lastD at hF
  rw [hp, hV] at hF
  rcases Nat.eq_zero_or_pos p with hz | hpos
  · have hds : ds = [] := List.eq_nil_of_length_eq_zero (by omega)
    rw [if_pos hds] at hF
    have hconv := run_string_of_own (l := o) HO.out HQ.out
    have HF := Lib.hid hF
    subst hz
    clear hF hq hp hds hV
    go_enter Try.func22, Try.ntmps22
    go_wp2_with fail
    go_ret2
    exact ⟨by rw [HF.out]; rfl, HB.out⟩
  · have hds : ds ≠ [] := by intro e; rw [e] at hp; simp at hp; omega
    rw [if_neg hds] at hF
    have hp0 : ¬ (p : Int) = 0 := by omega
    have hpi : (p : Int) ≤ 4 := by omega
    have hpi1 : (1 : Int) ≤ (p : Int) := by omega
    by_cases hbad : p = 1 ∨ 4294967295 < V
    · have HF := Lib.hid (hF.trans (if_pos hbad))
      by_cases h1 : p = 1
      · have h1' : ((p : Int) == 1) = true := by rw [h1]; rfl
        clear hF hq hp hds hV hbad h1
        go_enter Try.func22, Try.ntmps22
        go_wp2_with (go_at_call 23; refine (HVal.out _ HDs.out).mono ?_; rintro e w' ⟨rfl, rfl⟩)
        go_ret2
        exact ⟨by rw [HF.out]; rfl, HB.out⟩
      · have h1' : ((p : Int) == 1) = false := beq_eq_false_iff_ne.2 (fun e => h1 (by omega))
        have hv : (4294967295 : Int) < (V : Int) := by omega
        clear hF hq hp hds hV hbad
        go_enter Try.func22, Try.ntmps22
        go_wp2_with (go_at_call 23; refine (HVal.out _ HDs.out).mono ?_; rintro e w' ⟨rfl, rfl⟩)
        go_ret2
        exact ⟨by rw [HF.out]; rfl, HB.out⟩
    · have hF2 := hF.trans (if_neg hbad)
      have h1' : ((p : Int) == 1) = false := beq_eq_false_iff_ne.2 (fun e => hbad (.inl (by omega)))
      have hv : ¬ (4294967295 : Int) < (V : Int) := by omega
      have hVn : V ≤ 4294967295 := by omega
      by_cases hfull : m < q + (p - 1)
      · have HF := Lib.hid (hF2.trans (if_pos (by omega)))
        have hf : (m : Int) - (q : Int) < (p : Int) - 1 := by omega
        clear hF hF2 hq hp hds hV hbad
        go_enter Try.func22, Try.ntmps22
        go_wp2_with (go_at_call 23; refine (HVal.out _ HDs.out).mono ?_; rintro e w' ⟨rfl, rfl⟩)
        go_ret2
        exact ⟨by rw [HF.out]; rfl, HB.out⟩
      · have HF := Lib.hid (hF2.trans (if_neg (by omega)))
        have hf : ¬ (m : Int) - (q : Int) < (p : Int) - 1 := by omega
        obtain ⟨r, hr⟩ : ∃ r, p = r + 1 := ⟨p - 1, by omega⟩
        have hr1 : (p : Int) - 1 = (r : Int) := by omega
        have HBy := Lib.hid (fun W : World => bytesR_in V r W hVn (by omega))
        have hX := Blk.new w 5 (cellsOf (bytes4 V)).toArray
        obtain ⟨g, cap, w3, hrun, hown3, hb3, _⟩ := app_gen (N := N) (q := q) (K := w.heap.size) (k := r) (c := 4) ((bytes4 V).take r) (w.alloc (.cells (cellsOf (bytes4 V)).toArray 5)) (by rw [List.length_take]; show min r 4 = r; omega) (by omega)
          (fun j u hu => World.news_of_block hX j u (by
            unfold cellsOf at hu ⊢
            rw [List.map_take, List.getElem?_take] at hu
            split at hu
            · exact hu
            · cases hu))
          (HO.out.alloc _) (by rw [World.size_alloc]; have := HN.out; omega) (by omega)
        have hconv := run_string_of_own (l := o ++ (bytes4 V).take r) hown3 (by rw [List.length_append, HQ.out, List.length_take]; show q + min r 4 = q + r; omega)
        have HB3 := Lib.hid ((HB.out.alloc HN.out _).trans hb3)
        have HR := Lib.hid hr
        clear hF hF2 hq hp hds hV hbad hX hown3 hb3 hr
        go_enter Try.func22, Try.ntmps22
        go_wp2_with (first | (go_at_call 23; refine (HVal.out _ HDs.out).mono ?_; rintro e w' ⟨rfl, rfl⟩) | (go_at_call 24; refine (HBy.out _).mono ?_; rintro e w' ⟨rfl, rfl⟩))
        go_ret2
        refine ⟨?_, HB3.out⟩
        rw [HF.out, show p - 1 = r by have := HR.out; omega]
        rfl
end Go.Proofs.Ythioafndepkhoaa
