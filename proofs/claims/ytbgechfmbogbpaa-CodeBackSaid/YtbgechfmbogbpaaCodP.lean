/-
  code's coins and paired: rows of coins.
-/
import Derived.Test.YtbgechfmbogbpaaCodO
namespace Go.Proofs.Ytbgechfmbogbpaa
open Go.RowKit Cod

abbrev C2 := Int × Bool
/-- The cells of a row of coins. -/
def kC (l : List C2) : List Value := l.flatMap fun c => [.int .i64 c.1, .bool c.2]
theorem kC_cons (c : C2) (l : List C2) : kC (c :: l) = .int .i64 c.1 :: .bool c.2 :: kC l := by simp [kC]
theorem kC_len : ∀ l : List C2, (kC l).length = l.length * 2
  | [] => rfl
  | c :: l => by rw [kC_cons]; simp only [List.length_cons, kC_len l]; omega
theorem kC_snoc (l : List C2) (c : C2) : kC (l ++ [c]) = kC l ++ [.int .i64 c.1, .bool c.2] := by simp [kC]
theorem kC_append (l m : List C2) : kC (l ++ m) = kC l ++ kC m := by simp [kC]
theorem kC_one (l : List C2) : ∀ u ∈ kC l, u.oneCell' = true := by
  intro u hu
  unfold kC at hu
  obtain ⟨c, _, h⟩ := List.mem_flatMap.1 hu
  simp at h
  rcases h with rfl | rfl <;> rfl
theorem kC_at : ∀ (l : List C2) (j : Nat) (h : j < l.length), (kC l)[j * 2]? = some (.int .i64 l[j].1) ∧ (kC l)[j * 2 + 1]? = some (.bool l[j].2)
  | c :: l, 0, _ => by rw [kC_cons]; exact ⟨rfl, rfl⟩
  | c :: l, j + 1, h => by
    rw [kC_cons, show (j + 1) * 2 = j * 2 + 1 + 1 by omega, show (j * 2 + 1 + 1 + 1) = j * 2 + 1 + 1 + 1 from rfl]
    exact kC_at l j (by simpa using h)
/-- Rows of coins that a call owns, and rows of coins in memory. -/
def OwnK (w : World) (base : Nat) (v : Value) (n : Nat) (l : List C2) : Prop := w.ownsRow base 85 2 v n (kC l)
def KAt (D : Nat) (w : World) (A : Option Addr) (l : List C2) : Prop :=
  ∀ j (h : j < l.length), ∃ b off : Nat, A = some ⟨b, off, none⟩ ∧ b < D ∧ w.cell? ⟨b, off + j * 2, none⟩ = some (.int .i64 l[j].1) ∧ w.cell? ⟨b, off + j * 2 + 1, none⟩ = some (.bool l[j].2)
theorem KAt.below {D : Nat} {w w' : World} {A : Option Addr} {l : List C2} (h : KAt D w A l) (hb : Below D w w') : KAt D w' A l := fun j hj => by
  obtain ⟨b, off, e, hlt, h1, h2⟩ := h j hj
  exact ⟨b, off, e, hlt, (hb.cell (p := ⟨b, _, none⟩) hlt).trans h1, (hb.cell (p := ⟨b, _, none⟩) hlt).trans h2⟩
theorem infoK : (Try.prog.info? 85).map (fun i => (i.zero, i.size, i.bytes)) = some (some (.agg #[.int .i64 0, .bool false]), 2, 16) := by kernel_rfl
theorem own_kat {w : World} {base g n cap : Nat} {l : List C2} (h : OwnK w base (.slice (some ⟨g, 0, none⟩) n cap) n l) (hn : l.length = n) : KAt w.heap.size w (some ⟨g, 0, none⟩) l := fun j hj => by
  obtain ⟨g0, g1⟩ := kC_at l j hj
  exact ⟨g, 0, rfl, (h.lt g rfl).2, by rw [Nat.zero_add]; exact (h.cellAt _ (by omega)).trans g0, by rw [Nat.zero_add]; exact (h.cellAt _ (by omega)).trans g1⟩

set_option maxRecDepth 100000 in
set_option maxHeartbeats 4000000 in
theorem coins_any (A B : Option Addr) (cap capB : Nat) (l xs : List Int) (w : World) (h : IAt w A l) (hB : IAt w B xs) (hx : ∀ x ∈ xs, 0 ≤ x ∧ x.toNat < l.length) (hl : xs.length < 20) (_hll : l.length < 1000) :
    Calls Try.prog 41 #[.slice A l.length cap, .slice B xs.length capB] w fun e w' => ∃ A2 c2, e = .returned (.slice A2 xs.length c2) ∧
      OwnK w' w.heap.size (.slice A2 xs.length c2) xs.length (xs.map fun x => (l.getD x.toNat 0, false)) ∧ Below w.heap.size w w' := by
  obtain ⟨i0, hi, hz0, hz1, hz2⟩ := info_parts infoK
  have HA := Lib.hid h
  have HBB := Lib.hid hB
  have HXI := Lib.hid hx
  obtain ⟨N, hN⟩ : ∃ N, w.heap.size = N := ⟨_, rfl⟩
  have HS := Lib.hid hN
  obtain ⟨n, hn⟩ : ∃ n, xs.length = n := ⟨_, rfl⟩
  have HN := Lib.hid hn
  obtain ⟨m, hm⟩ : ∃ m, l.length = m := ⟨_, rfl⟩
  have HM := Lib.hid hm
  obtain ⟨f, hf⟩ : ∃ f : Int → C2, (fun x => (l.getD x.toNat 0, false)) = f := ⟨_, rfl⟩
  have HF := Lib.hid (show ∀ x, f x = (l.getD x.toNat 0, false) from fun x => by rw [← hf])
  rw [hf, hN, hn, hm]
  rw [hn] at hl
  rw [hm] at _hll
  have hnb : (n : Int) < 20 := by omega
  have HB0 := Lib.hid (show Below N w w ∧ N ≤ w.heap.size from ⟨Below.refl _ _, by omega⟩)
  have HO0 := Lib.hid (show OwnK w N (.slice none 0 0) ((xs.take 0).map f).length ((xs.take 0).map f) from World.ownsRow_nil _ _ _ _)
  clear h hB hx hN hn hm hf
  go_enter Try.func41, Try.ntmps41
  go_wp2_with fail
  go_loopw [5, 10] (fun v iv wr => ∃ (k : Nat) (A2 : Option Addr) (c2 : Nat), k ≤ n ∧ iv = .int .i64 (k : Int) ∧ v = .slice A2 k c2 ∧ Hid (Below N w wr ∧ N ≤ wr.heap.size) ∧ Hid (OwnK wr N (.slice A2 k c2) k ((xs.take k).map f))) (fun _ iv _ => n - (intOf iv).toNat)
  case atStart => exact ⟨0, none, 0, by omega, rfl, rfl, HB0, HO0⟩
  case round =>
    clear HB0 HO0
    obtain ⟨k, A2, c2, hk, rfl, rfl, HB, HO⟩ := hrel
    by_cases hlt : k < n
    · have hkl : k < xs.length := by rw [HN.out]; exact hlt
      have hik : (k : Int) < (n : Int) := by omega
      have hik0 : (0 : Int) ≤ (k : Int) := by omega
      obtain ⟨b, off, rfl, _, c0⟩ := (HBB.out.below (HS.out ▸ HB.out.1)) k hkl
      have hxk := HXI.out _ (List.getElem_mem hkl)
      obtain ⟨x, hx⟩ : ∃ x : Nat, xs[k] = (x : Int) := ⟨xs[k].toNat, by omega⟩
      have hxl : x < l.length := by have := hxk.2; rw [hx] at this; simpa using this
      obtain ⟨b2, off2, rfl, _, d0⟩ := (HA.out.below (HS.out ▸ HB.out.1)) x hxl
      obtain ⟨y, hy⟩ : ∃ y, l[x] = y := ⟨_, rfl⟩
      have HSG := Lib.hid (show (xs.take (k + 1)).map f = (xs.take k).map f ++ [(y, false)] by
        rw [List.take_succ_eq_append_getElem hkl, List.map_append, List.map_cons, List.map_nil, hx, HF.out, Int.toNat_natCast, gd l hxl, hy])
      rw [hx] at c0
      rw [hy] at d0
      rw [HM.out] at hxl
      have hx1 : (x : Int) < (m : Int) := by omega
      have hx0 : (0 : Int) ≤ (x : Int) := by omega
      obtain ⟨s, hs⟩ : ∃ s, (xs.take k).map f = s := ⟨_, rfl⟩
      rw [hs] at HO HSG
      clear hx hy hs hxk
      have hNs := HB.out.2
      go_wp2_with (at_builtin; refine wpList_append_lies _ rfl _ _ _ rfl N 85 i0 (.agg #[.int .i64 0, .bool false]) 2 16 Try.underlying65 hi hz0 hz1 hz2 rfl (by decide) (.slice A2 k c2) k (kC s) rfl (by exact World.ownsRow.alloc HO.out _) ⟨wr.heap.size, 0, none⟩ 1 1 [.int .i64 y, .bool false] rfl rfl (World.news_of_block (heap_alloc_new wr _)) (by simp [Value.oneCell']) (by omega) (by unfold maxLen; omega) (by omega) (by simp; omega) (wr.heap.size + 1) (by simp) ?_; intro g cap2 w1 hown1 hgrow hat hlt1)
      have hB1 : Below N w (wr.alloc (.cells #[.int .i64 y, .bool false] 85)) := HB.out.1.alloc hNs _
      have HB1 := Lib.hid (show Below N w w1 ∧ N ≤ w1.heap.size from ⟨hB1.grown hgrow (by simp; omega) (fun r hr => by have := (HO.out.lt r hr).1; omega), by have := hgrow.size; simp at this; omega⟩)
      have HO1 := Lib.hid (show OwnK w1 N (.slice (some ⟨g, 0, none⟩) (k + 1) cap2) (k + 1) ((xs.take (k + 1)).map f) by
        rw [HSG.out]
        unfold OwnK
        rw [kC_snoc]
        exact hown1)
      clear hown1 hgrow hat hlt1 hB1
      go_roundw
      case rel => exact ⟨k + 1, some ⟨g, 0, none⟩, cap2, by omega, by go_num, rfl, HB1, HO1⟩
      case measure => simp [intOf]; omega
    · obtain rfl : k = n := by omega
      have HO1 := Lib.hid (show OwnK wr N (.slice A2 k c2) k (xs.map f) by have := HO.out; rwa [List.take_of_length_le (by rw [HN.out]; exact Nat.le_refl _)] at this)
      clear HO
      go_wp2_with fail
      go_ret
      first | exact ⟨A2, ⟨c2, rfl⟩, HO1.out, HB.out.1⟩ | exact ⟨A2, c2, rfl, HO1.out, HB.out.1⟩

set_option maxRecDepth 100000 in
set_option maxHeartbeats 4000000 in
theorem paired_any (D : Nat) (A : Option Addr) (cap : Nat) (l : List C2) (w : World) (h : KAt D w A l) (hD : D ≤ w.heap.size) (hl : l.length < 1000) :
    Calls Try.prog 56 #[.slice A l.length cap] w fun e w' => e = .returned (.int .i64 (l.countP (·.2) : Int)) ∧ Below w.heap.size w w' := by
  have HA := Lib.hid h
  obtain ⟨N, hN⟩ : ∃ N, w.heap.size = N := ⟨_, rfl⟩
  have HS := Lib.hid hN
  obtain ⟨n, hn⟩ : ∃ n, l.length = n := ⟨_, rfl⟩
  have HN := Lib.hid hn
  rw [hN, hn]
  rw [hN] at hD
  rw [hn] at hl
  have HCB := Lib.hid (show ∀ k, ((l.take k).countP (·.2)) ≤ 1000 from fun k => by
    have h1 : (l.take k).countP (·.2) ≤ (l.take k).length := List.countP_le_length
    have h2 : (l.take k).length ≤ l.length := by rw [List.length_take]; omega
    omega)
  have HB0 := Lib.hid (show Below N w w ∧ N ≤ w.heap.size from ⟨Below.refl _ _, by omega⟩)
  have hnb : (n : Int) < 1000 := by omega
  clear h hN hn
  go_enter Try.func56, Try.ntmps56
  go_wp2_with fail
  go_loopw [3, 8] (fun v iv wr => ∃ k : Nat, k ≤ n ∧ iv = .int .i64 (k : Int) ∧ v = .int .i64 (((l.take k).countP (·.2) : Nat) : Int) ∧ Hid (Below N w wr ∧ N ≤ wr.heap.size)) (fun _ iv _ => n - (intOf iv).toNat)
  case atStart => exact ⟨0, by omega, rfl, rfl, HB0⟩
  case round =>
    clear HB0
    obtain ⟨k, hk, rfl, rfl, HB⟩ := hrel
    by_cases hlt : k < n
    · have hkl : k < l.length := by rw [HN.out]; exact hlt
      have hik : (k : Int) < (n : Int) := by omega
      have hik0 : (0 : Int) ≤ (k : Int) := by omega
      obtain ⟨b, off, rfl, _, c0, c1⟩ := (HA.out.below (HB.out.1.mono hD)) k hkl
      have HCk := Lib.hid (show (l.take (k + 1)).countP (·.2) = (l.take k).countP (·.2) + if l[k].2 = true then 1 else 0 by
        rw [List.take_succ_eq_append_getElem hkl, List.countP_append]
        by_cases hb : l[k].2 = true <;> simp [hb])
      have hcb := HCB.out k
      obtain ⟨x, hx⟩ : ∃ x, l[k].1 = x := ⟨_, rfl⟩
      obtain ⟨y, hy⟩ : ∃ y, l[k].2 = y := ⟨_, rfl⟩
      rw [hx] at c0
      rw [hy] at c1 HCk
      obtain ⟨c, hc⟩ : ∃ c, (l.take k).countP (·.2) = c := ⟨_, rfl⟩
      rw [hc] at HCk hcb ⊢
      clear hx hy hc
      have HB1 := Lib.hid (show Below N w (wr.alloc (.cells #[.int .i64 x, .bool y] 85)) ∧ N ≤ (wr.alloc (.cells #[.int .i64 x, .bool y] 85)).heap.size from ⟨HB.out.1.alloc HB.out.2 _, by rw [World.size_alloc]; have := HB.out.2; omega⟩)
      cases y
      · go_wp2_with fail
        go_roundw
        case rel => exact ⟨k + 1, by omega, by go_num, by rw [HCk.out]; rfl, HB1⟩
        case measure => simp [intOf]; omega
      · go_wp2_with fail
        go_roundw
        case rel => exact ⟨k + 1, by omega, by go_num, by rw [HCk.out]; push_cast; rfl, HB1⟩
        case measure => simp [intOf]; omega
    · obtain rfl : k = n := by omega
      rw [List.take_of_length_le (by rw [HN.out]; exact Nat.le_refl _)]
      go_wp2_with fail
      go_ret
      exact ⟨rfl, HB.out.1⟩
end Go.Proofs.Ytbgechfmbogbpaa
