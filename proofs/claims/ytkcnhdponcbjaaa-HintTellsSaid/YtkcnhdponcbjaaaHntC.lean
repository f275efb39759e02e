/-
  Whether a list has a hint out of range: hint.Text$1, slices.IndexFunc, slices.ContainsFunc.
-/
import Derived.Test.YtkcnhdponcbjaaaHntB
namespace Go.Proofs.Ytkcnhdponcbjaaa
open Go.RowKit Bt Hnt

/-- A row of hints in memory. -/
def HAt (w : World) (A : Option Addr) (l : List H3) : Prop :=
  ∀ j (h : j < l.length), ∃ b off : Nat, A = some ⟨b, off, none⟩ ∧ b < w.heap.size ∧ w.cell? ⟨b, off + j * 3, none⟩ = some (.int .i64 l[j].1) ∧ w.cell? ⟨b, off + j * 3 + 1, none⟩ = some (.int .i64 l[j].2.1) ∧
    w.cell? ⟨b, off + j * 3 + 2, none⟩ = some (.int .i64 l[j].2.2)
theorem HAt.below {w w' : World} {A : Option Addr} {l : List H3} (h : HAt w A l) (hb : Below w.heap.size w w') : HAt w' A l := fun j hj => by
  obtain ⟨b, off, ha, hlt, h1, h2, h3⟩ := h j hj
  exact ⟨b, off, ha, Nat.lt_of_lt_of_le hlt hb.size, (hb.cell (p := ⟨b, _, none⟩) hlt).trans h1, (hb.cell (p := ⟨b, _, none⟩) hlt).trans h2, (hb.cell (p := ⟨b, _, none⟩) hlt).trans h3⟩

set_option maxRecDepth 100000 in
set_option maxHeartbeats 2000000 in
theorem text1_any (x y z : Int) (w : World) :
    Calls Try.prog 17 #[.agg #[.int .i64 x, .int .i64 y, .int .i64 z]] w fun e w' => e = .returned (.bool (!okH (x, y, z))) ∧ Below w.heap.size w w' := by
  obtain ⟨N, hN⟩ : ∃ N, w.heap.size = N := ⟨_, rfl⟩
  obtain ⟨V, hV⟩ : ∃ V, w.alloc (.cells #[.int .i64 x, .int .i64 y, .int .i64 z] 35) = V := ⟨_, rfl⟩
  have bP : Blk V N 35 #[.int .i64 x, .int .i64 y, .int .i64 z] := by
    rw [← hV, ← hN]
    exact Blk.new w _ _
  have HB := Lib.hid (show Below N w V by rw [← hV, ← hN]; exact (Below.refl _ w).alloc (Nat.le_refl _) _)
  have HVs := Lib.hid (show N ≤ V.heap.size by rw [← hV, World.size_alloc, hN]; omega)
  have p0 := bP.cell 0
  have p1 := bP.cell 1
  have p2 := bP.cell 2
  simp only [List.getElem?_toArray, List.getElem?_cons_zero, List.getElem?_cons_succ] at p0 p1 p2
  have HV := Lib.hid (fun W : World => valid_any x y z W)
  obtain ⟨b, hb⟩ : ∃ b, okH (x, y, z) = b := ⟨_, rfl⟩
  rw [hb] at HV ⊢
  rw [hN]
  clear hb bP
  go_enter Try.func17, Try.ntmps17
  go_upto_region 1 with fail
  try rw [hV]
  clear hV hN
  go_wp2_with fail
  refine (HV.out _).mono ?_
  rintro e w1 ⟨rfl, hb⟩
  have HB1 := Lib.hid (HB.out.trans (hb.mono HVs.out))
  clear hb
  go_wp2_with fail
  go_ret
  exact ⟨rfl, HB1.out⟩

theorem all_no {l : List H3} {k : Nat} (h : k < l.length) {x : H3} (e : l[k] = x) (hx : okH x = false) : l.all okH = false := by
  rw [Bool.eq_false_iff]
  intro e2
  rw [List.all_eq_true] at e2
  have := e2 l[k] (List.getElem_mem h)
  rw [e, hx] at this
  exact absurd this (by simp)

set_option maxRecDepth 100000 in
set_option maxHeartbeats 4000000 in
theorem index_any (A : Option Addr) (cap : Nat) (l : List H3) (w : World) (h : HAt w A l) (hl : l.length ≤ 1000000000) :
    Calls Try.prog 36 #[.slice A l.length cap, .func (.func 17) #[] #[]] w fun e w' => ∃ r : Int, e = .returned (.int .i64 r) ∧ Hid (decide (0 ≤ r) = !l.all okH) ∧ Below w.heap.size w w' := by
  obtain ⟨N, hN⟩ : ∃ N, w.heap.size = N := ⟨_, rfl⟩
  obtain ⟨n, hn⟩ : ∃ n, l.length = n := ⟨_, rfl⟩
  have HN := Lib.hid hn
  have HS := Lib.hid hN
  have H0 := Lib.hid (fun (W : World) (hb : Below N w W) => h.below (hN ▸ hb))
  have hnb : (n : Int) ≤ 1000000000 := by omega
  rw [hN, hn]
  clear h hl hn hN
  go_enter Try.func36, Try.ntmps36
  go_wp2_with fail
  go_loopw [8] (fun i wr => ∃ k : Nat, k ≤ n ∧ i = .int .i64 (k : Int) ∧ Hid (Below N w wr) ∧ Hid (∀ j (h : j < l.length), j < k → okH l[j] = true)) (fun i _ => n - (intOf i).toNat)
  case atStart => exact ⟨0, by omega, rfl, Lib.hid (Below.refl _ _), Lib.hid (fun j _ hj => absurd hj (by omega))⟩
  case round =>
    obtain ⟨k, hk, rfl, HB, HG⟩ := hrel
    by_cases hlt : k < n
    · have hkl : k < l.length := by rw [HN.out]; exact hlt
      obtain ⟨b, off, rfl, hbs, c0, c1, c2⟩ := H0.out wr HB.out k hkl
      obtain ⟨x, hx⟩ : ∃ x, l[k].1 = x := ⟨_, rfl⟩
      obtain ⟨y, hy⟩ : ∃ y, l[k].2.1 = y := ⟨_, rfl⟩
      obtain ⟨z, hz⟩ : ∃ z, l[k].2.2 = z := ⟨_, rfl⟩
      have HE := Lib.hid (show l[k] = (x, y, z) by rw [← hx, ← hy, ← hz])
      rw [hx] at c0
      rw [hy] at c1
      rw [hz] at c2
      have HT := Lib.hid (fun W : World => text1_any x y z W)
      have HKL := Lib.hid hkl
      have hik : (k : Int) < (n : Int) := by omega
      clear hx hy hz hbs
      by_cases hb : okH (x, y, z) = true
      · rw [hb] at HT
        have HG2 := Lib.hid (show ∀ j (h : j < l.length), j < k + 1 → okH l[j] = true from fun j h hj => by
          by_cases e : j = k
          · subst e; rw [HE.out]; exact hb
          · exact HG.out j h (by omega))
        clear hb
        go_wp2_with fail
        refine (HT.out _).mono ?_
        rintro e w1 ⟨rfl, hb⟩
        have HB1 := Lib.hid (HB.out.trans (hb.mono (by have := HB.out.size; rw [HS.out] at this; exact this)))
        clear hb
        go_wp2_with fail
        go_roundw
        case rel => exact ⟨k + 1, by omega, by go_num, HB1, HG2⟩
        case measure => simp [intOf]; omega
      · have hb' : okH (x, y, z) = false := by simpa using hb
        rw [hb'] at HT
        have HBd := Lib.hid (show decide ((0 : Int) ≤ (k : Int)) = !l.all okH by
          rw [decide_eq_true (by omega)]
          have : l.all okH = false := all_no hkl HE.out hb'
          rw [this]
          rfl)
        clear hb hb'
        go_wp2_with fail
        refine (HT.out _).mono ?_
        rintro e w1 ⟨rfl, hb⟩
        have HB1 := Lib.hid (HB.out.trans (hb.mono (by have := HB.out.size; rw [HS.out] at this; exact this)))
        clear hb
        go_wp2_with fail
        go_ret
        exact ⟨_, rfl, HBd, HB1.out⟩
    · obtain rfl : k = n := by omega
      have HBd := Lib.hid (show decide ((0 : Int) ≤ -1) = !l.all okH by
        have : l.all okH = true := by
          rw [List.all_eq_true]
          intro x hx
          obtain ⟨j, hj, rfl⟩ := List.getElem_of_mem hx
          exact HG.out j hj (by rw [← HN.out]; exact hj)
        rw [this]
        rfl)
      go_wp2_with fail
      go_ret
      exact ⟨_, rfl, HBd, HB.out⟩

set_option maxRecDepth 100000 in
set_option maxHeartbeats 4000000 in
theorem contains_any (A : Option Addr) (cap : Nat) (l : List H3) (w : World) (h : HAt w A l) (hl : l.length ≤ 1000000000) :
    Calls Try.prog 16 #[.slice A l.length cap, .func (.func 17) #[] #[]] w fun e w' => e = .returned (.bool (!l.all okH)) ∧ Below w.heap.size w w' := by
  have HI := Lib.hid (index_any A cap l w h hl)
  obtain ⟨n, hn⟩ : ∃ n, l.length = n := ⟨_, rfl⟩
  rw [hn] at HI ⊢
  obtain ⟨b, hb⟩ : ∃ b, (!l.all okH) = b := ⟨_, rfl⟩
  rw [hb] at HI ⊢
  clear h hl hn hb
  go_enter Try.func16, Try.ntmps16
  go_wp2_with fail
  refine HI.out.mono ?_
  rintro e w' ⟨r, rfl, HR, hb⟩
  have HB := Lib.hid hb
  clear hb
  have hr := HR.out
  by_cases h0 : 0 ≤ r
  · rw [decide_eq_true h0] at hr
    subst hr
    go_wp2_with fail
    go_ret
    exact ⟨rfl, HB.out⟩
  · rw [decide_eq_false h0] at hr
    subst hr
    have H0 := Lib.hid h0
    go_wp2_with fail
    go_ret
    exact ⟨ret_bool (decide_eq_false (by have := H0.out; omega)), HB.out⟩
end Go.Proofs.Ytkcnhdponcbjaaa
