/-
  code's chosen: the rows of coins.
-/
import Derived.Test.YtbgechfmbogbpaaCodT
import Derived.Test.YtbgechfmbogbpaaCodS
import Derived.Test.YtbgechfmbogbpaaCodVt
import Derived.Test.YtbgechfmbogbpaaCodUw
import Derived.Deep.RegionHeld3
import Derived.Deep.AppendLies
namespace Go.Proofs.Ytbgechfmbogbpaa
open Go.RowKit Cod Go.Shelf
attribute [local go_sem] Oper.semAt_some
attribute [-go_sem] Builtin.append_

def ltC (a b : C2) : Bool := decide (a.1 < b.1)
/-- The rows, the last bit's first. -/
def rowF (l : List C2) : Nat → List C2
  | 0 => l
  | i + 1 => insS dC ltC (l ++ pairsL (rowF l i))
/-- The numbers, and how many coins are still to be taken. -/
def numsK (l : List C2) (most : Nat) : Nat → List Int × Nat
  | 0 => ([], 2 * l.length - 2)
  | k + 1 => ((numsK l most k).1 ++ [((numsK l most k).2 : Int) - (((rowF l (most - 1 - k)).take (numsK l most k).2).countP (·.2) : Nat)],
      2 * ((rowF l (most - 1 - k)).take (numsK l most k).2).countP (·.2))
theorem infoS : (Try.prog.info? 65).map (fun i => (i.zero, i.size, i.bytes)) = some (some (.slice none 0 0), 1, 24) := by kernel_rfl
/-- The rows so far: a row of rows that the call owns. -/
def RowsAt (Nb : Nat) (l : List C2) (i : Nat) (v : Value) (W : World) : Prop :=
  ∃ (Q c : Nat) (rv : List Value), v = .slice (some ⟨Q, 0, none⟩) (i + 1) c ∧ W.ownsRow Nb 65 1 v (i + 1) rv ∧
    ∀ j, j < i + 1 → ∃ Rj cj : Nat, rv[j]? = some (.slice (some ⟨Rj, 0, none⟩) (rowF l j).length cj) ∧ (rowF l j).length ≤ cj ∧ Rj ≠ Q ∧ Rj < W.heap.size ∧ KAt W.heap.size W (some ⟨Rj, 0, none⟩) (rowF l j)
theorem ownK_some {w : World} {base n C : Nat} {A : Option Addr} {l : List C2} (h : OwnK w base (.slice A n C) n l) (hn : 0 < n) : ∃ g, A = some ⟨g, 0, none⟩ := by
  rcases h.2 with ⟨_, h2⟩ | ⟨g, c3, _, h1, _⟩
  · omega
  · injection h1 with h1 h2 h3
    exact ⟨g, h1⟩
theorem kat_grown {D D' : Nat} {w w' : World} {R : Nat} {row : Option Nat} {l : List C2} (h : KAt D w (some ⟨R, 0, none⟩) l) (hg : w.grownBy w' row) (hne : some R ≠ row) (hD : R < D') : KAt D' w' (some ⟨R, 0, none⟩) l := fun j hj => by
  obtain ⟨b, off, e, hlt, c0, c1⟩ := h j hj
  have e' := e
  injection e with e
  injection e with e1 e2
  subst e1 e2
  exact ⟨R, 0, rfl, hD, hg.cell (a := ⟨R, _, none⟩) c0 hne, hg.cell (a := ⟨R, _, none⟩) c1 hne⟩
theorem kat_size {D D' : Nat} {w : World} {A : Option Addr} {l : List C2} (h : KAt D w A l) (hD : D ≤ D') : KAt D' w A l := fun j hj => by
  obtain ⟨b, off, e, hlt, c⟩ := h j hj
  exact ⟨b, off, e, by omega, c⟩

theorem own_base {w : World} {B B' : Nat} {e : TypeId} {size : Nat} {v : Value} {n : Nat} {xs : List Value} (h : w.ownsRow B e size v n xs) (hb : B' ≤ B) : w.ownsRow B' e size v n xs :=
  ⟨h.1, by
    rcases h.2 with h2 | ⟨g, cap, cur, hv, hbg, r⟩
    · exact .inl h2
    · exact .inr ⟨g, cap, cur, hv, Nat.le_trans hb hbg, r⟩⟩
theorem kat_take {D : Nat} {w : World} {A : Option Addr} {l : List C2} (h : KAt D w A l) (t : Nat) : KAt D w A (l.take t) := fun j hj => by
  rw [List.length_take] at hj
  obtain ⟨b, off, e, hlt, c⟩ := h j (by omega)
  refine ⟨b, off, e, hlt, ?_⟩
  rw [List.getElem_take]
  exact c

set_option maxRecDepth 100000 in
set_option maxHeartbeats 4000000 in
theorem chosen_any (R cap : Nat) (l : List C2) (most : Nat) (w : World) (h : KAt w.heap.size w (some ⟨R, 0, none⟩) l) (hR : R < w.heap.size) (hcap : l.length ≤ cap) (hl2 : 2 ≤ l.length) (hm : 1 ≤ most) (hm2 : most ≤ 15)
    (hrow : ∀ i, i < most → 2 ≤ (rowF l i).length ∧ (rowF l i).length < 20 ∧ (l.length + (pairsL (rowF l i)).length < 20) ∧ (0 < (pairsL (rowF l i)).length) ∧ ∀ c ∈ rowF l i, 0 ≤ c.1 ∧ c.1 ≤ 1000000000) (htake : ∀ k, k < most → (numsK l most k).2 ≤ (rowF l (most - 1 - k)).length) :
    Calls Try.prog 40 #[.slice (some ⟨R, 0, none⟩) l.length cap, .int .i64 (most : Int)] w fun e w' => ∃ A C, e = .returned (.slice A most C) ∧ OwnI w' w.heap.size (.slice A most C) most (numsK l most most).1 ∧ Below w.heap.size w w' := by
  obtain ⟨i0, hi, hz0, hz1, hz2⟩ := info_parts infoK
  obtain ⟨i1, hi1, hz3, hz4, hz5⟩ := info_parts infoS
  obtain ⟨N, hN⟩ : ∃ N, w.heap.size = N := ⟨_, rfl⟩
  rw [hN] at h hR ⊢
  have hmI : (most : Int) ≤ 15 := by omega
  have HROW := Lib.hid hrow
  have HTAKE := Lib.hid htake
  have HL2 := Lib.hid hl2
  have hl20 : l.length < 20 := by have := (hrow 0 (by omega)).2.2.1; omega
  have HK0 := Lib.hid h
  obtain ⟨n, hn⟩ : ∃ n, l.length = n := ⟨_, rfl⟩
  have HN := Lib.hid hn
  have HCl := Lib.hid (fun (W : World) (hb : Below N w W) (hs : N ≤ W.heap.size) => cloneK_any R cap l W (kat_size (h.below hb) hs) (by omega) (by omega))
  have HPr := Lib.hid (fun (i : Nat) (him : i < most) (Ri ci : Nat) (W : World) (hk : KAt W.heap.size W (some ⟨Ri, 0, none⟩) (rowF l i)) (hr : Ri < W.heap.size) (hc : (rowF l i).length ≤ ci) =>
    (pairs_any Ri ci (rowF l i) W hk hr hc (by have := (hrow i him).2.1; omega) (hrow i him).2.2.2.2).mono (R' := fun e w' => ∃ g C : Nat, e = .returned (.slice (some ⟨g, 0, none⟩) (pairsL (rowF l i)).length C) ∧ OwnK w' W.heap.size (.slice (some ⟨g, 0, none⟩) (pairsL (rowF l i)).length C) (pairsL (rowF l i)).length (pairsL (rowF l i)) ∧ Below W.heap.size W w') (fun e w' ⟨A, C, he, ho, hb⟩ => by
      obtain ⟨g, rfl⟩ := ownK_some ho (hrow i him).2.2.2.1
      exact ⟨g, C, he, ho, hb⟩))
  obtain ⟨V, hV⟩ : ∃ V, w.alloc (.cells #[.slice (some ⟨R, 0, none⟩) n cap] 65) = V := ⟨_, rfl⟩
  have HVV := Lib.hid hV
  have hB0 : Below N w V := by rw [← hV, ← hN]; exact (Below.refl _ w).alloc (Nat.le_refl _) _
  have hVs : V.heap.size = N + 1 := by rw [← hV, World.size_alloc, hN]
  have HB0 := Lib.hid (show Below N w V ∧ N ≤ V.heap.size from ⟨hB0, by omega⟩)
  have HR0 := Lib.hid (show RowsAt N l 0 (.slice (some ⟨N, 0, none⟩) 1 1) V from
    ⟨N, 1, [.slice (some ⟨R, 0, none⟩) n cap], rfl, by
      rw [← hV, ← hN]
      exact World.ownsRow_lit w #[.slice (some ⟨R, 0, none⟩) n cap] 1 (Nat.le_refl _) (by unfold maxLen; omega) rfl, fun j hj => by
      obtain rfl : j = 0 := by omega
      exact ⟨R, cap, by rw [← hn]; rfl, hcap, by omega, by omega, kat_size (h.below hB0) (by omega)⟩⟩)
  rw [hn] at HCl ⊢
  clear h hrow htake hl2 hcap hB0 hVs hV
  refine (callsIn_wide (n := 6)).1 ?_
  refine callsIn_of_wp_marks Try.func40 rfl trivial ?_ rfl
  simp only [Try.ntmps40, List.size_toArray, List.length_cons, List.length_nil, Nat.reduceAdd, Nat.reduceSub, Array.replicate_succ, Array.replicate_zero, List.push_toArray, List.append_toArray, List.nil_append, List.cons_append]
  gi_wp2
  refine wpIn_wide.2 ?_
  rw [HVV.out]
  clear HVV
  obtain ⟨m, hmm⟩ : ∃ m, most = m + 1 := ⟨most - 1, by omega⟩
  have hms : (most : Int) - 1 = (m : Int) := by omega
  rw [hms]
  have hmb : m ≤ 14 := by omega
  have HMM := Lib.hid hmm
  clear hmm
  go_loopw [5, 17] (fun v iv wr => ∃ i : Nat, i ≤ m ∧ iv = .int .i64 (i : Int) ∧ (∃ Q c, v = .slice (some ⟨Q, 0, none⟩) (i + 1) c) ∧ Hid (Below N w wr ∧ N ≤ wr.heap.size) ∧ Hid (RowsAt N l i v wr)) (fun _ iv _ => m - (intOf iv).toNat)
  case atStart => exact ⟨0, by omega, rfl, ⟨N, 1, rfl⟩, HB0, HR0⟩
  case round =>
    clear HB0 HR0
    obtain ⟨i, him, rfl, ⟨Q, c, rfl⟩, HB, HRo⟩ := hrel
    by_cases hlt : i < m
    · have hik : (i : Int) < (m : Int) := by omega
      have hik0 : (0 : Int) ≤ (i : Int) := by omega
      obtain ⟨Q', c', rv, e, hown, hrows⟩ := HRo.out
      injection e with e1 e2 e3
      injection e1 with e1
      injection e1 with e1
      subst e1 e3
      obtain ⟨Ri, ci, er, hci, hRQ, hRs, hKi⟩ := hrows i (by omega)
      have q0 : wr.cell? ⟨Q, i, none⟩ = some (.slice (some ⟨Ri, 0, none⟩) (rowF l i).length ci) := (hown.cellAt i (by omega)).trans er
      have hQs : Q < wr.heap.size := (hown.lt Q rfl).2
      have hii : (i : Int) < ((i + 1 : Nat) : Int) := by omega
      have hii2 : (i : Int) < (i : Int) + 1 := by omega
      have hii3 : ¬ (i : Int) < 0 := by omega
      have hii4 : ¬ ((i + 1 : Nat) : Int) ≤ (i : Int) := by omega
      have hii5 : ¬ (i : Int) + 1 ≤ (i : Int) := by omega
      have HOWN := Lib.hid hown
      have HRWS := Lib.hid hrows
      have HKI := Lib.hid hKi
      obtain ⟨H1, hH1⟩ : ∃ H1, wr.heap.size = H1 := ⟨_, rfl⟩
      have HH1 := Lib.hid hH1
      have him2 : i < most := by have := HMM.out; omega
      have HPi := Lib.hid (fun (W : World) (hb : Below H1 wr W) (hs : H1 ≤ W.heap.size) => HPr.out i him2 Ri ci W (kat_size (hKi.below (by rw [hH1]; exact hb)) (by rw [hH1]; exact hs)) (by omega) hci)
      obtain ⟨pl, hpl⟩ : ∃ pl, pairsL (rowF l i) = pl := ⟨_, rfl⟩
      have HPL := Lib.hid hpl
      have hrw := HROW.out i him2
      rw [hpl] at HPi hrw
      obtain ⟨q, hq⟩ : ∃ q, pl.length = q := ⟨_, rfl⟩
      have HQq := Lib.hid hq
      obtain ⟨ni, hni⟩ : ∃ ni, (rowF l i).length = ni := ⟨_, rfl⟩
      have HNI := Lib.hid hni
      rw [hni] at q0 HPi hrw
      rw [hq] at HPi hrw
      rw [hn] at hrw
      have hq0 : 0 < q := hrw.2.2.2.1
      have hnq : n + q < 20 := hrw.2.2.1
      have hS1 : Below H1 wr wr.drew ∧ H1 ≤ wr.drew.heap.size := ⟨(Below.refl _ _).drew, by show H1 ≤ wr.heap.size; omega⟩
      have HKp := Lib.hid (show ∀ W, Below H1 wr W → W.cell? ⟨Q, i, none⟩ = some (.slice (some ⟨Ri, 0, none⟩) ni ci) from fun W hb => (hb.cell (p := ⟨Q, _, none⟩) (by rw [← hH1]; exact hQs)).trans q0)
      have hNH : N ≤ H1 := by rw [← hH1]; exact HB.out.2
      have HCl2 := Lib.hid (fun (W : World) (hb : Below H1 wr W ∧ H1 ≤ W.heap.size) => HCl.out W (HB.out.1.trans (hb.1.mono hNH)) (by omega))
      clear hown hrows hKi er hpl hq hni hrw hH1 hci hRs
      go_wp2_with fail
      go_region_held3 (fun W => W.cell? ⟨Q, i, none⟩ = some (.slice (some ⟨Ri, 0, none⟩) ni ci)) (first | exact q0 | exact HKp.out _ hS1.1 | exact HKp.out _ HC1.out.1 | exact HKp.out _ HC2.out.1 | exact HKp.out _ HC3.out.1) (first | (go_at_call 51; refine (HCl2.out _ hS1).mono ?_; rintro e w1 ⟨g1, c1, rfl, ho1, hb1⟩; have HC1 := Lib.hid (show Below H1 wr w1 ∧ H1 ≤ w1.heap.size from ⟨hS1.1.trans (hb1.mono hS1.2), Nat.le_trans hS1.2 hb1.size⟩); have HO1 := Lib.hid (show OwnK w1 H1 (.slice (some ⟨g1, 0, none⟩) n c1) n l from by have e : wr.drew.heap.size = H1 := HH1.out; rw [e] at ho1; exact ho1); clear ho1 hb1) | (go_at_call 52; refine (HPi.out _ HC1.out.1 HC1.out.2).mono ?_; rintro e w2 ⟨g2, c2, rfl, ho2, hb2⟩; have HC2 := Lib.hid (show Below H1 wr w2 ∧ H1 ≤ w2.heap.size from ⟨HC1.out.1.trans (hb2.mono HC1.out.2), Nat.le_trans HC1.out.2 hb2.size⟩); have HO2 := Lib.hid (show OwnK w2 H1 (.slice (some ⟨g1, 0, none⟩) n c1) n l from HO1.out.kept (row := none) ⟨hb2.os, hb2.tape, hb2.output, hb2.size, fun k hk _ => hb2.block k hk⟩ (Or.inr (by intro e; cases e))); have HN2 := Lib.hid (own_kat ho2 HQq.out).news; clear ho2 hb2) | (refine step_append_lies _ (by rfl) _ _ _ (by rfl) H1 85 i0 (.agg #[.int .i64 0, .bool false]) 2 16 Try.underlying65 hi hz0 hz1 hz2 rfl (by decide) (.slice (some ⟨g1, 0, none⟩) n c1) n (kC l) (by rfl) (by exact HO2.out) ⟨g2, 0, none⟩ q c2 (kC pl) (by rfl) (by rw [kC_len, HQq.out]) (by exact HN2.out) (kC_one pl) hq0 (by unfold maxLen; omega) (by omega) (by exact HC2.out.2) _ rfl ?_; intro g3 c3 w3 hown3 hgrow3 hat3 hlt3; have HC3 := Lib.hid (show Below H1 wr w3 ∧ H1 ≤ w3.heap.size from ⟨HC2.out.1.grown hgrow3 HC2.out.2 (fun k hk => (HO2.out.lt k hk).1), Nat.le_trans HC2.out.2 hgrow3.size⟩); have HO3 := Lib.hid hown3; clear hown3 hgrow3 hat3 hlt3))
      all_goals
        have HN3 := Lib.hid (show OwnK w3 H1 (.slice (some ⟨g3, 0, none⟩) (n + q) c3) (n + q) (l ++ pl) by unfold OwnK; rw [kC_append]; exact HO3.out)
        obtain ⟨hseg, hg3, hnc, hcm⟩ := seg_own HN3.out
        have hll : (l ++ pl).length = n + q := by rw [List.length_append, HN.out, HQq.out]
        have HLL := Lib.hid hll
        have hso := sort_coins g3 (c3 * 2) (l ++ pl) w3 hseg c3 (by omega) (by omega)
        rw [hll] at hso
        have HSO := Lib.hid hso
        have HRF := Lib.hid (show rowF l (i + 1) = insS dC (fun a b => decide (a.1 < b.1)) (l ++ pl) by rw [← HPL.out]; rfl)
        clear hso hseg hll HO3 HN3 q0
        go_wp2_with fail
        refine HSO.out.mono ?_
        rintro e w4 ⟨rfl, hs4, hg4⟩
        have HC4 := Lib.hid (show Below H1 wr w4 ∧ H1 ≤ w4.heap.size from ⟨HC3.out.1.grown hg4 HC3.out.2 (fun k hk => by injection hk with hk; omega), Nat.le_trans HC3.out.2 hg4.size⟩)
        have HK4 := Lib.hid (show OwnK w4 H1 (.slice (some ⟨g3, 0, none⟩) (n + q) c3) (n + q) (rowF l (i + 1)) by
          rw [HRF.out]
          exact own_seg hs4 hg3 hnc hcm (by rw [kC_len, show (insS dC (fun a b => decide (a.1 < b.1)) (l ++ pl)).length = (l ++ pl).length from insK_len _ _ _ _, HLL.out]))
        have HRL := Lib.hid (show (rowF l (i + 1)).length = n + q by rw [HRF.out, show (insS dC (fun a b => decide (a.1 < b.1)) (l ++ pl)).length = (l ++ pl).length from insK_len _ _ _ _, HLL.out])
        have HOW4 := Lib.hid (show w4.ownsRow N 65 1 (.slice (some ⟨Q, 0, none⟩) (i + 1) c) (i + 1) rv from HOWN.out.kept (row := none) ⟨HC4.out.1.os, HC4.out.1.tape, HC4.out.1.output, HC4.out.1.size, fun k hk _ => HC4.out.1.block k (by rw [← HH1.out]; exact hk)⟩ (Or.inr (by intro e; cases e)))
        have hg34 : g3 < w4.heap.size := hs4.lt
        have HG3 := Lib.hid (show H1 ≤ g3 ∧ g3 < w4.heap.size ∧ n + q ≤ c3 from ⟨hg3, hg34, hnc⟩)
        clear hs4 hg4 hg3 hnc hcm hg34
        have hc4s := HC4.out.2
        go_wp2_with (at_builtin; refine wpList_append_lies _ rfl _ _ _ rfl N 65 i1 (.slice none 0 0) 1 24 Try.underlying82 hi1 hz3 hz4 hz5 rfl (by decide) (.slice (some ⟨Q, 0, none⟩) (i + 1) c) (i + 1) rv rfl (by exact World.ownsRow.alloc HOW4.out _) ⟨w4.heap.size, 0, none⟩ 1 1 [.slice (some ⟨g3, 0, none⟩) (n + q) c3] rfl rfl (World.news_of_block (heap_alloc_new w4 _)) (by simp [Value.oneCell']) (by omega) (by unfold maxLen; omega) (by omega) (by simp; omega) (w4.heap.size + 1) (by simp) ?_; intro g5 c5 w5 hown5 hgrow5 hat5 hlt5)
        have hwA : Below H1 wr (w4.alloc (.cells #[.slice (some ⟨g3, 0, none⟩) (n + q) c3] 65)) := HC4.out.1.alloc hc4s _
        have hQ1 : Q < H1 := by rw [← HH1.out]; exact hQs
        have hsA : (w4.alloc (.cells #[.slice (some ⟨g3, 0, none⟩) (n + q) c3] 65)).heap.size = w4.heap.size + 1 := World.size_alloc _ _
        have hg5n : g5 ≠ g3 ∧ (g5 = Q ∨ g5 = w4.heap.size + 1) := by
          have h3 := HG3.out
          rcases hat5 with h | h
          · injection h with h
            have h' : Q = g5 := h
            omega
          · omega
        have hsz5 : w4.heap.size + 1 ≤ w5.heap.size := by have := hgrow5.size; omega
        have HB5 := Lib.hid (show Below N w w5 ∧ N ≤ w5.heap.size from ⟨(HB.out.1.trans (hwA.mono hNH)).grown hgrow5 (by rw [hsA]; omega) (fun r hr => (HOW4.out.lt r hr).1), by omega⟩)
        have HR5 := Lib.hid (show RowsAt N l (i + 1) (.slice (some ⟨g5, 0, none⟩) (i + 1 + 1) c5) w5 from
          ⟨g5, c5, rv ++ [.slice (some ⟨g3, 0, none⟩) (n + q) c3], rfl, hown5, fun j hj => by
            have hrl : rv.length = i + 1 := by have := HOWN.out.1; omega
            rcases Nat.lt_or_ge j (i + 1) with h1 | h1
            · obtain ⟨Rj, cj, er, hcj, hRj, hsj, hkj⟩ := HRWS.out j h1
              refine ⟨Rj, cj, ?_, hcj, ?_, ?_, ?_⟩
              · rw [List.getElem?_append_left (by omega)]; exact er
              · rcases hg5n.2 with h | h
                · rw [h]; exact hRj
                · have : Rj < H1 := by rw [← HH1.out]; exact hsj
                  omega
              · have : Rj < H1 := by rw [← HH1.out]; exact hsj
                omega
              · have h2 : Rj < H1 := by rw [← HH1.out]; exact hsj
                exact kat_grown (hkj.below (by rw [HH1.out]; exact hwA)) hgrow5 (by
                  intro e
                  injection e with e
                  exact hRj e) (by omega)
            · obtain rfl : j = i + 1 := by omega
              refine ⟨g3, c3, ?_, by rw [HRL.out]; exact HG3.out.2.2, hg5n.1.symm, by have := HG3.out; omega, ?_⟩
              · rw [List.getElem?_append_right (by omega), hrl, Nat.sub_self, HRL.out]; rfl
              · have hk4 := own_kat HK4.out HRL.out
                have hk5 : KAt w4.heap.size (w4.alloc (.cells #[.slice (some ⟨g3, 0, none⟩) (n + q) c3] 65)) (some ⟨g3, 0, none⟩) (rowF l (i + 1)) := hk4.below ((Below.refl _ w4).alloc (Nat.le_refl _) _)
                exact kat_grown hk5 hgrow5 (by
                  intro e
                  injection e with e
                  have e' : g3 = Q := e
                  have := HG3.out
                  omega) (by have := HG3.out; omega)⟩)
        clear hown5 hgrow5 hat5 hlt5 hwA hg5n hsA hsz5
        go_roundw
        case rel => exact ⟨i + 1, by omega, by go_num, ⟨g5, c5, rfl⟩, HB5, HR5⟩
        case measure => simp [intOf]; omega
    · obtain rfl : i = m := by omega
      have i1 : ¬ (i : Int) < (i : Int) := by omega
      obtain ⟨Q', c', rv, e, hown, hrows⟩ := HRo.out
      injection e with e1 e2 e3
      injection e1 with e1
      injection e1 with e1
      subst e1 e3
      have HOWN := Lib.hid hown
      have HRWS := Lib.hid hrows
      have HQs := Lib.hid ((hown.lt Q rfl).2)
      obtain ⟨X, hX⟩ : ∃ X, wr.heap.size = X := ⟨_, rfl⟩
      have HX := Lib.hid hX
      have hNX : N ≤ X := by rw [← hX]; exact HB.out.2
      have hn2 : (n : Int) < 20 := by omega
      have hn3 : (2 : Int) ≤ (n : Int) := by have := HL2.out; rw [HN.out] at this; omega
      have hw1 : IntKind.i64.wrap (2 * (n : Int)) = 2 * (n : Int) := IntWalk.i64_in _ (by omega)
      have hw2 : IntKind.i64.wrap (2 * (n : Int) - 2) = ((2 * n - 2 : Nat) : Int) := by rw [IntWalk.i64_in _ (by omega)]; omega
      have hmx1 : max (0 : Int) ((2 * n - 2 : Nat) : Int) = ((2 * n - 2 : Nat) : Int) := by omega
      obtain ⟨t0, ht0⟩ : ∃ t : Nat, 2 * n - 2 = t := ⟨_, rfl⟩
      rw [ht0] at hw2 hmx1
      have HT0 := Lib.hid ht0
      have ht0b : t0 ≤ 38 := by omega
      have ht1 : (0 : Int) < (t0 : Int) := by omega
      have ht2 : ¬ (t0 : Int) < 0 := by omega
      have ht3 : (0 : Int) ≤ (t0 : Int) := by omega
      clear hown hrows ht0
      go_wp2_with fail
      gi_wp2_with (refine ⟨trivial, ?_⟩; gi_at_call 55; refine (backward_in _ _ _ _ _).mono ?_; rintro e w' ⟨rfl, rfl⟩)
      obtain ⟨V2, hV2⟩ : ∃ V2, ((wr.alloc (.cells #[.slice none 0 0] 22)).alloc (.cells #[.int .i64 (t0 : Int)] 3)).alloc (.cells #[.slice (some ⟨Q, 0, none⟩) (i + 1) c] 82) = V2 := ⟨_, rfl⟩
      have hVs2 : V2.heap.size = X + 3 := by rw [← hV2]; simp [hX]
      have b1 : Boxed V2 X 22 (.slice none 0 0) := by rw [← hV2, ← hX]; exact ((Boxed.new wr _ _).alloc _).alloc _
      have b2 : Boxed V2 (X + 1) 3 (.int .i64 (t0 : Int)) := by
        rw [← hV2]
        have := Boxed.new (wr.alloc (.cells #[.slice none 0 0] 22)) 3 (.int .i64 (t0 : Int))
        rw [World.size_alloc, hX] at this
        exact this.alloc _
      have b3 : Boxed V2 (X + 2) 82 (.slice (some ⟨Q, 0, none⟩) (i + 1) c) := by
        rw [← hV2]
        have := Boxed.new ((wr.alloc (.cells #[.slice none 0 0] 22)).alloc (.cells #[.int .i64 (t0 : Int)] 3)) 82 (.slice (some ⟨Q, 0, none⟩) (i + 1) c)
        rw [World.size_alloc, World.size_alloc, hX] at this
        exact this
      have hB2 : Below X wr V2 := by
        rw [← hV2, ← hX]
        exact (((Below.refl _ wr).alloc (Nat.le_refl _) _).alloc (by simp) _).alloc (by simp; omega) _
      rw [hV2]
      have HRVl := Lib.hid (show ∀ j, j < i + 1 → V2.cell? ⟨Q, j, none⟩ = some (rv.getD j undef) from fun j hj => by
        have h1 := (HOWN.out.cellAt j (by have := HOWN.out.1; omega))
        have h2 : V2.cell? ⟨Q, j, none⟩ = wr.cell? ⟨Q, j, none⟩ := hB2.cell (p := ⟨Q, j, none⟩) (by rw [← hX]; exact HQs.out)
        rw [h2, h1]
        obtain ⟨Rj, cj, er, _⟩ := HRWS.out j hj
        rw [er, List.getD, er]
        rfl)
      have hzz : (numsK l most 0) = ([], t0) := by show ([], 2 * l.length - 2) = ([], t0); rw [HN.out, HT0.out]
      refine rangeFunc_tied (gf := 65) (lb := #[.pointer (some ⟨X + 1 + 1, 0, none⟩)]) rfl (enters_of Try.func65 (by kernel_rfl) rfl)
        (back_tied _ (X + 1 + 1) Q (i + 1) c rv (by omega) (fun b => b < X ∨ b = X + 2) V2 (Or.inr rfl) (Or.inl (by rw [← hX]; exact HQs.out)) (by omega) (by have := HQs.out; omega) b3.cell HRVl.out)
        (fun h k => h.trans k) (fun W l o o' hl _ _ _ b hb => World.putObj_heap_other (by rcases hb with h | h <;> omega)) (Below.refl _ _) (fun _ => rfl)
        (fun k W => RoundAt X (.slice (some ⟨Q, 0, none⟩) (i + 1) c) wr (numsK l most k).1 (numsK l most k).2 k W) (roundAt_own X _ wr (fun k => (numsK l most k).1) (fun k => (numsK l most k).2) (by omega) _ (by omega))
        ⟨⟨⟨_, b1, by rw [hzz]; exact World.ownsRow_nil V2 X 3 1, by simp [Value.ownBlock]⟩, by rw [hzz]; exact b2, b3⟩, hB2⟩
        (fun k => { tmps := #[.slice (some ⟨R, 0, none⟩) n cap, .int .i64 (most : Int), undef, undef, .slice none 0 0, .slice (some ⟨Q, 0, none⟩) (i + 1) c, u6, u7, .pointer (some ⟨X, 0, none⟩), .pointer (some ⟨X + 1, 0, none⟩), undef, rv.getD (i + 1 - 1 - k) undef, undef, .slice (some ⟨R, 0, none⟩) n cap, .slice (some ⟨N, 0, none⟩) 1 1, .int .i64 (most : Int), .int .i64 (i : Int), .int .i64 (i : Int), .bool false, u19, u20, u21, u22, u23, u24, u25, u26, u27, u28, u29, u30, u31, u32, u33, u34, .slice (some ⟨R, 0, none⟩) n cap, .int .i64 (n : Int), .int .i64 (2 * (n : Int)), .int .i64 (t0 : Int), .int .i64 (t0 : Int), .slice (some ⟨Q, 0, none⟩) (i + 1) c, .func (.func 65) #[] #[.pointer (some ⟨X + 1 + 1, 0, none⟩)], .int .i64 ((i + 1 - 1 - k : Nat) : Int), rv.getD (i + 1 - 1 - k) undef, undef, undef, undef, undef, undef, undef, undef, undef, undef, undef, undef, undef, undef, undef, undef], defers := [] }) ?assign ?body ?done
      case assign =>
        intro lp k W K hK
        dsimp only [encT]
        gi_wp2
        exact hK
      case body =>
        rintro lp k W ⟨⟨⟨v, hv, hrow, hne⟩, c2, c3⟩, hB⟩ hk
        obtain ⟨j, hj⟩ : ∃ j, i + 1 - 1 - k = j := ⟨_, rfl⟩
        obtain ⟨Rj, cj, er, hcj, hRj, hsj, hkj⟩ := HRWS.out j (by omega)
        have hu : rv.getD j undef = .slice (some ⟨Rj, 0, none⟩) (rowF l j).length cj := by rw [List.getD, er]; rfl
        rw [hX] at hkj
        have hX3 : X + 3 ≤ W.heap.size := by have := c3.lt; omega
        have hka : KAt X W (some ⟨Rj, 0, none⟩) (rowF l j) := hkj.below hB
        have hkm : k < most := by have := HMM.out; omega
        have hjm : j < most := by have := HMM.out; omega
        have hmj : most - 1 - k = j := by have := HMM.out; omega
        obtain ⟨t, ht⟩ : ∃ t, (numsK l most k).2 = t := ⟨_, rfl⟩
        obtain ⟨nums, hnums⟩ : ∃ x, (numsK l most k).1 = x := ⟨_, rfl⟩
        have htl : t ≤ (rowF l j).length := by have := HTAKE.out k hkm; rw [hmj, ht] at this; exact this
        have hlj : (rowF l j).length < 20 := (HROW.out j hjm).2.1
        obtain ⟨cnt, hcnt⟩ : ∃ x, ((rowF l j).take t).countP (·.2) = x := ⟨_, rfl⟩
        have htk : ((rowF l j).take t).length = t := by rw [List.length_take]; omega
        have hcl : cnt ≤ t := by
          have h1 := List.countP_le_length (p := fun c : C2 => c.2) (l := (rowF l j).take t)
          rw [hcnt, htk] at h1
          exact h1
        have hstep : numsK l most (k + 1) = (nums ++ [(t : Int) - (cnt : Int)], 2 * cnt) := by
          show ((numsK l most k).1 ++ [((numsK l most k).2 : Int) - (((rowF l (most - 1 - k)).take (numsK l most k).2).countP (·.2) : Nat)], 2 * ((rowF l (most - 1 - k)).take (numsK l most k).2).countP (·.2)) = _
          rw [ht, hnums, hmj, hcnt]
        obtain ⟨d, hd⟩ : ∃ d : Int, (t : Int) - (cnt : Int) = d := ⟨_, rfl⟩
        obtain ⟨t', ht'⟩ : ∃ t', 2 * cnt = t' := ⟨_, rfl⟩
        rw [hd, ht'] at hstep
        have wr1 : IntKind.i64.wrap ((t : Int) - (cnt : Int)) = d := by rw [IntWalk.i64_in _ (by omega)]; exact hd
        have wr2 : IntKind.i64.wrap ((t : Int) - d) = (cnt : Int) := by rw [IntWalk.i64_in _ (by omega)]; omega
        have wr3 : IntKind.i64.wrap (2 * (cnt : Int)) = (t' : Int) := by rw [IntWalk.i64_in _ (by omega)]; omega
        have s0 : (0 : Int) ≤ (t : Int) := by omega
        have s1 : (t : Int) ≤ (cj : Int) := by omega
        have HST := Lib.hid hstep
        have HPp := paired_any X (some ⟨Rj, 0, none⟩) cj ((rowF l j).take t) W.drew (kat_take hka t) (by show X ≤ W.heap.size; omega) (by omega)
        rw [htk, hcnt] at HPp
        have HP := Lib.hid HPp
        rw [ht] at c2
        rw [hnums] at hrow
        have HF := Lib.hid (fun (w1 : World) (hb : Below W.drew.heap.size W.drew w1) => round_world (d := d) t' hv hrow c2 c3 hB hb hX3 (by omega) hne)
        have e2 := c2.cell
        rw [hVs2]
        obtain ⟨nj, hnj⟩ : ∃ x, (rowF l j).length = x := ⟨_, rfl⟩
        rw [hj, hu, hnj]
        clear hv hrow hne c2 c3 hB hka hkj htl hlj hcnt htk hcl hstep hd ht' HPp hnums ht hmj er hcj hRj hsj hu hnj hX3 hj hkm hjm
        gi_wp2
        refine region_in (by kernel_rfl) (noDefer_spec (by kernel_rfl)) (by rintro ⟨a, w, h⟩; first | exact h | (trace_state; exact h.elim)) ?_
        try (change wpAny _ _ _ _ _ _ _ (World.drew _))
        refine wpAny_take (i := 1) (v := ?v0) rfl (by kernel_rfl) (by kernel_rfl) (by kernel_rfl) (fun _ _ _ h => h) (Or.inl ⟨by rfl, ?hy0⟩) ?rest0
        case hy0 => first | (intro w; go_simp; done) | (intro w; go_simp; with_reducible rfl)
        refine wpAny_ready (rs := [0, 2]) (by kernel_rfl) (by simp) ?_
        refine AllReady.cons rfl (fun K hK => ?_) ?_
        · go_simp
          refine hK _ _ ?_
          clear hK K
          refine wpAny_ready (rs := [2]) (by kernel_rfl) (by simp) ?_
          refine AllReady.cons rfl (fun K hK => ?_) ?_
          · go_simp
            refine hK _ _ ?_
            clear hK K
            refine wpAny_take (i := 3) (v := ?v1) rfl (by kernel_rfl) (by kernel_rfl) (by kernel_rfl) (fun _ _ _ h => h) (Or.inl ⟨by rfl, ?hy1⟩) ?rest1
            case hy1 => first | (intro w; go_simp; done) | (intro w; go_simp; with_reducible rfl)
            refine wpAny_ready (rs := [4]) (by kernel_rfl) (by simp) ?_
            refine AllReady.cons rfl (fun K hK => ?_) ?_
            · go_simp
              go_at_call 56
              refine HP.out.mono ?_
              rintro e w1 ⟨rfl, hb⟩
              obtain ⟨g2, cap2, w2, hrun, q1, q2, q3, q4, q5, q6, q7, q8, q9⟩ := HF.out w1 hb
              have HFIN := Lib.hid (And.intro q7 (And.intro q8 (show RoundAt X (.slice (some ⟨Q, 0, none⟩) (i + 1) c) wr (numsK l most (k + 1)).1 (numsK l most (k + 1)).2 (k + 1) _ from by rw [HST.out]; exact q9)))
              clear hb q7 q8 q9
              refine hK _ _ ?_
              clear hK K
              refine wpAny_take (i := 5) (v := ?v2) rfl (by kernel_rfl) (by kernel_rfl) (by kernel_rfl) (fun _ _ _ h => h) (Or.inl ⟨by rfl, ?hy2⟩) ?rest2
              case hy2 => first | (intro w; go_simp; done) | (intro w; go_simp; with_reducible rfl)
              refine wpAny_take (i := 6) (v := ?v3) rfl (by kernel_rfl) (by kernel_rfl) (by kernel_rfl) (fun _ _ _ h => h) (Or.inl ⟨by rfl, ?hy3⟩) ?rest3
              case hy3 => first | (intro w; go_simp; done) | (intro w; go_simp; with_reducible rfl)
              refine wpAny_done (by kernel_rfl) ?_ _
              gi_wp2
              exact HFIN.out
            exact AllReady.nil
          exact AllReady.nil
        refine AllReady.cons rfl (fun K hK => ?_) ?_
        · go_simp
          refine hK _ _ ?_
          clear hK K
          refine wpAny_take (i := 3) (v := ?v4) rfl (by kernel_rfl) (by kernel_rfl) (by kernel_rfl) (fun _ _ _ h => h) (Or.inl ⟨by rfl, ?hy4⟩) ?rest4
          case hy4 => first | (intro w; go_simp; done) | (intro w; go_simp; with_reducible rfl)
          refine wpAny_ready (rs := [0, 4]) (by kernel_rfl) (by simp) ?_
          refine AllReady.cons rfl (fun K hK => ?_) ?_
          · go_simp
            refine hK _ _ ?_
            clear hK K
            refine wpAny_ready (rs := [4]) (by kernel_rfl) (by simp) ?_
            refine AllReady.cons rfl (fun K hK => ?_) ?_
            · go_simp
              go_at_call 56
              refine HP.out.mono ?_
              rintro e w1 ⟨rfl, hb⟩
              obtain ⟨g2, cap2, w2, hrun, q1, q2, q3, q4, q5, q6, q7, q8, q9⟩ := HF.out w1 hb
              have HFIN := Lib.hid (And.intro q7 (And.intro q8 (show RoundAt X (.slice (some ⟨Q, 0, none⟩) (i + 1) c) wr (numsK l most (k + 1)).1 (numsK l most (k + 1)).2 (k + 1) _ from by rw [HST.out]; exact q9)))
              clear hb q7 q8 q9
              refine hK _ _ ?_
              clear hK K
              refine wpAny_take (i := 5) (v := ?v5) rfl (by kernel_rfl) (by kernel_rfl) (by kernel_rfl) (fun _ _ _ h => h) (Or.inl ⟨by rfl, ?hy5⟩) ?rest5
              case hy5 => first | (intro w; go_simp; done) | (intro w; go_simp; with_reducible rfl)
              refine wpAny_take (i := 6) (v := ?v6) rfl (by kernel_rfl) (by kernel_rfl) (by kernel_rfl) (fun _ _ _ h => h) (Or.inl ⟨by rfl, ?hy6⟩) ?rest6
              case hy6 => first | (intro w; go_simp; done) | (intro w; go_simp; with_reducible rfl)
              refine wpAny_done (by kernel_rfl) ?_ _
              gi_wp2
              exact HFIN.out
            exact AllReady.nil
          refine AllReady.cons rfl (fun K hK => ?_) ?_
          · go_simp
            go_at_call 56
            refine HP.out.mono ?_
            rintro e w1 ⟨rfl, hb⟩
            obtain ⟨g2, cap2, w2, hrun, q1, q2, q3, q4, q5, q6, q7, q8, q9⟩ := HF.out w1 hb
            have HFIN := Lib.hid (And.intro q7 (And.intro q8 (show RoundAt X (.slice (some ⟨Q, 0, none⟩) (i + 1) c) wr (numsK l most (k + 1)).1 (numsK l most (k + 1)).2 (k + 1) _ from by rw [HST.out]; exact q9)))
            clear hb q7 q8 q9
            refine hK _ _ ?_
            clear hK K
            refine wpAny_ready (rs := [0]) (by kernel_rfl) (by simp) ?_
            refine AllReady.cons rfl (fun K hK => ?_) ?_
            · go_simp
              refine hK _ _ ?_
              clear hK K
              refine wpAny_take (i := 5) (v := ?v7) rfl (by kernel_rfl) (by kernel_rfl) (by kernel_rfl) (fun _ _ _ h => h) (Or.inl ⟨by rfl, ?hy7⟩) ?rest7
              case hy7 => first | (intro w; go_simp; done) | (intro w; go_simp; with_reducible rfl)
              refine wpAny_take (i := 6) (v := ?v8) rfl (by kernel_rfl) (by kernel_rfl) (by kernel_rfl) (fun _ _ _ h => h) (Or.inl ⟨by rfl, ?hy8⟩) ?rest8
              case hy8 => first | (intro w; go_simp; done) | (intro w; go_simp; with_reducible rfl)
              refine wpAny_done (by kernel_rfl) ?_ _
              gi_wp2
              exact HFIN.out
            exact AllReady.nil
          exact AllReady.nil
        exact AllReady.nil
      case done =>
        rintro D W hD ⟨⟨⟨v, hv, hrow, hne⟩, c2, c3⟩, hB⟩ hKD
        have hc := hv.cell
        have HRW := Lib.hid (own_base hrow hNX)
        have HBW := Lib.hid (HB.out.1.trans (hB.mono hNX))
        have hmm : most = i + 1 := HMM.out
        clear hrow hne c2 c3 hB hv
        gi_wp2
        refine ⟨by simp, .inl ⟨_, _, rfl, run_takeDeferred hKD, ?_⟩⟩
        have hr2 := HRW.out
        rw [← hmm] at hr2
        obtain ⟨A, C, rfl⟩ := own_form hr2
        exact ⟨_, results_tmp rfl _ _ _, A, C, rfl, ownsRow_putObj hr2 _ hKD rfl, HBW.out.trans (belowK_b (w := V2) (by omega) W D _ _ hD hKD rfl rfl)⟩
end Go.Proofs.Ytbgechfmbogbpaa
