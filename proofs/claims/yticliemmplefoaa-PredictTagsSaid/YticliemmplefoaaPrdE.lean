/-
  The document's best and Best; predict's Best.
-/
import Derived.Test.YticliemmplefoaaPrdD
import Derived.Deep.DeepCutAuto
import Derived.Laws.EntriesVeiled
namespace Go.Proofs.Yticliemmplefoaa
open Go.RowKit Oct Prd

theorem IsRow.bytes {W : World} {g cap : Nat} {P : ByteArray} {e : TypeId} {fr : Nat × Nat} (h : W.heap[g]? = some (.cells (bytesRow P cap) e fr)) : IsRow W (.slice (some ⟨g, 0, none⟩) P.size cap) P.data.toList := by
  have hl : P.data.toList.length = P.size := by simp
  refine ⟨some ⟨g, 0, none⟩, cap, by rw [hl], fun j hj => ⟨g, 0, rfl, ?_⟩⟩
  rw [Nat.zero_add]
  have hb : (bytesRow P cap)[j]? = some (.int .u8 (P.data.toList[j].toNat : Int)) := by
    unfold bytesRow
    rw [Array.getElem?_append_left (by simp; omega), Array.getElem?_map]
    have : P.data[j]? = some P.data.toList[j] := by
      rw [← Array.getElem?_toList, List.getElem?_eq_getElem hj]
    rw [this]
    rfl
  simp [World.cell?, h, hb]
/-- The state of the search behind k filters, as the document's best keeps it. -/
def BestAt (prev row : List UInt8) (c k tag least : Nat) : Prop := (k = 0 ∧ tag = 0 ∧ least = 0) ∨ (1 ≤ k ∧ bestN prev row c k = (tag, least))
theorem BestAt.next_take {prev row : List UInt8} {c k tag least n : Nat} (h : BestAt prev row c k tag least) (hn : n = weightR (lessR k prev row c)) (h2 : k = 0 ∨ n < least) : BestAt prev row c (k + 1) k n := by
  refine .inr ⟨by omega, ?_⟩
  rcases h with ⟨rfl, rfl, rfl⟩ | ⟨h1, h3⟩
  · rw [bestN_one, hn, lessR_zero]
  · have h4 : n < least := by omega
    rw [bestN, h3, ← hn]
    exact if_pos h4
theorem BestAt.next_leave {prev row : List UInt8} {c k tag least n : Nat} (h : BestAt prev row c k tag least) (hn : n = weightR (lessR k prev row c)) (h1 : ¬ k = 0) (h2 : ¬ n < least) : BestAt prev row c (k + 1) tag least := by
  refine .inr ⟨by omega, ?_⟩
  rcases h with ⟨rfl, _, _⟩ | ⟨_, h3⟩
  · exact absurd rfl h1
  · rw [bestN, h3, ← hn]
    exact if_neg h2
theorem BestAt.fin {prev row : List UInt8} {c tag least : Nat} (h : BestAt prev row c 5 tag least) : bestR prev row c = tag := by
  rcases h with ⟨h, _⟩ | ⟨_, h⟩
  · omega
  · unfold bestR; rw [h]
theorem bestN_bound (prev row : List UInt8) (c : Nat) : ∀ k, (bestN prev row c k).2 ≤ 128 * row.length
  | 0 => weightR_le row
  | k + 1 => by
    rw [bestN]
    split
    · have := weightR_le (lessR k prev row c)
      rw [lessR_len] at this
      exact this
    · exact bestN_bound prev row c k
theorem BestAt.bounds {prev row : List UInt8} {c k tag least : Nat} (h : BestAt prev row c k tag least) (hk : k ≤ 5) : tag < 5 ∧ least ≤ 128 * row.length := by
  rcases h with ⟨rfl, rfl, rfl⟩ | ⟨h1, h3⟩
  · omega
  · have h4 := bestN_lt prev row c k h1
    have h5 := bestN_bound prev row c k
    rw [h3] at h4 h5
    exact ⟨by show tag < 5; have : tag < k := h4; omega, h5⟩

/-! ### Best, the document's and predict's. -/
theorem two_heaps (w : World) (X Y : Obj) : (((w.alloc X).alloc Y).drew.drew).heap[w.heap.size]? = some X ∧ (((w.alloc X).alloc Y).drew.drew).heap[w.heap.size + 1]? = some Y ∧ Below w.heap.size w (((w.alloc X).alloc Y).drew.drew) := by
  refine ⟨?_, ?_, ?_⟩
  · exact (Below.heap_alloc (w.alloc X) Y w.heap.size (by simp)).trans (heap_alloc_new w _)
  · have := heap_alloc_new (w.alloc X) Y
    rw [World.size_alloc] at this
    exact this
  · exact below_drewN (((Below.refl _ w).alloc (Nat.le_refl _) X).alloc (by simp) Y) 2
theorem prd_set {B k : Nat} {w w' : World} (h : Below B w w') (hk : B ≤ k) (i : Nat) (u : Value) : Below B w (w'.setCell ⟨k, i, none⟩ u) :=
  ⟨h.os, h.tape, h.output, by simpa [World.setCell] using h.size, fun b hb => (Below.heap_setCell w' ⟨k, i, none⟩ u b (by show b ≠ k; omega)).trans (h.block b hb)⟩
set_option maxHeartbeats 1000000 in
theorem filters_any (w : World) : Calls Try.prog 21 #[] w fun e w' => e = .returned (.agg #[.func (.func (filN 0)) #[] #[], .func (.func (filN 1)) #[] #[], .func (.func (filN 2)) #[] #[], .func (.func (filN 3)) #[] #[], .func (.func (filN 4)) #[] #[]]) ∧ Below w.heap.size w w' := by
  have HB0 := Lib.hid (Below.refl w.heap.size w)
  go_enter Try.func21, Try.ntmps21
  go_upto_region 1 with fail
  obtain ⟨W, hW⟩ : ∃ W, w.alloc (.cells #[.nilFunc, .nilFunc, .nilFunc, .nilFunc, .nilFunc] 45) = W := ⟨_, rfl⟩
  obtain ⟨G, hG⟩ : ∃ G, w.heap.size = G := ⟨_, rfl⟩
  have hB := Blk.new w 45 #[.nilFunc, .nilFunc, .nilFunc, .nilFunc, .nilFunc]
  have HB1 := Lib.hid (HB0.out.alloc (Nat.le_refl _) (.cells #[.nilFunc, .nilFunc, .nilFunc, .nilFunc, .nilFunc] 45))
  rw [hW, hG] at hB HB1
  rw [hW]
  rw [hG]
  have HG := Lib.hid hG
  have c0 := hB.cell 0
  have c1 := hB.cell 1
  have c2 := hB.cell 2
  have c3 := hB.cell 3
  have c4 := hB.cell 4
  have f0 := hB.frozen 0
  have f1 := hB.frozen 1
  have f2 := hB.frozen 2
  have f3 := hB.frozen 3
  have f4 := hB.frozen 4
  simp only [List.getElem?_toArray, List.getElem?_cons_zero, List.getElem?_cons_succ] at c0 c1 c2 c3 c4
  clear hW hG hB
  go_wp2_with fail
  rw [HG.out]
  exact bodyPost_ret (v := .agg #[.func (.func (filN 0)) #[] #[], .func (.func (filN 1)) #[] #[], .func (.func (filN 2)) #[] #[], .func (.func (filN 3)) #[] #[], .func (.func (filN 4)) #[] #[]]) (by simp [results, Try.results21, go_sem, c0, c1, c2, c3, c4, filN]) rfl ⟨rfl, prd_set (prd_set (prd_set (prd_set (prd_set HB1.out (Nat.le_refl _) _ _) (Nat.le_refl _) _ _) (Nat.le_refl _) _ _) (Nat.le_refl _) _ _) (Nat.le_refl _) _ _⟩

theorem conv_at (P : ByteArray) (W : World) : ∃ c X, (∃ fr, X = Obj.cells (bytesRow P c) 5 fr) ∧ Sem.run Try.prog (convert 9 42 (.string P)) W = .ok (.slice (some ⟨W.heap.size, 0, none⟩) P.size c) (W.drew.alloc X) :=
  ⟨_, _, ⟨_, rfl⟩, run_bytes_of_string (P := Try.prog) W 9 42 5 P Try.underlying9 Try.underlying42 Try.underlying5⟩
theorem index_filter (k : Nat) (hk : k < 5) (W : World) : Sem.run Try.prog (Instr.index 45 (.agg #[.func (.func (filN 0)) #[] #[], .func (.func (filN 1)) #[] #[], .func (.func (filN 2)) #[] #[], .func (.func (filN 3)) #[] #[], .func (.func (filN 4)) #[] #[]]) (.int .i64 (k : Int))) W = .ok (.func (.func (filN k)) #[] #[]) W := by
  rcases k with _ | _ | _ | _ | _ | k
  · kernel_rfl
  · kernel_rfl
  · kernel_rfl
  · kernel_rfl
  · kernel_rfl
  · omega
/-- The search of predict's Best behind k filters. -/
def BestP (prev row : List UInt8) (c k tag least : Nat) : Prop := bestN prev row c k = (tag, least)

set_option maxRecDepth 100000 in
set_option maxHeartbeats 4000000 in
theorem bestP_in (p r : ByteArray) (c : Int) (m : Nat) (w : World) (_hp : p.size ≤ 100000) (hr : r.size ≤ 100000) (hm0 : m ≤ 1000000) (hm : 1 ≤ c ∧ c = (m : Int) ∨ c ≤ 1 ∧ ¬ 1 ≤ c ∧ m = 1) :
    Calls Try.prog 9 #[.string p, .string r, .int .i64 c] w fun e w' => e = .returned (.int .i64 (bestR p.data.toList r.data.toList m : Nat)) ∧ Below w.heap.size w w' := by
  obtain ⟨c1, X, hX, h1⟩ := conv_at p w
  obtain ⟨c2, Y, hY, h2⟩ := conv_at r (w.alloc X).drew
  have hrl : r.data.toList.length = r.size := by simp
  obtain ⟨N, hN⟩ : ∃ N, w.heap.size = N := ⟨_, rfl⟩
  obtain ⟨W, hW⟩ : ∃ W, ((w.alloc X).alloc Y).drew.drew = W := ⟨_, rfl⟩
  obtain ⟨k1, k2, k3⟩ := two_heaps w X Y
  obtain ⟨fr1, rfl⟩ := hX
  obtain ⟨fr2, rfl⟩ := hY
  rw [hN, hW] at k1 k2 k3
  have HP := Lib.hid (IsRow.bytes k1)
  have HR := Lib.hid (IsRow.bytes k2)
  have HB1 := Lib.hid k3
  obtain ⟨prev, hprev⟩ : ∃ prev, p.data.toList = prev := ⟨_, rfl⟩
  obtain ⟨row, hrow⟩ : ∃ row, r.data.toList = row := ⟨_, rfl⟩
  rw [hprev] at HP ⊢
  rw [hrow] at HR hrl ⊢
  rw [hN]
  obtain ⟨q, hq⟩ : ∃ q, weightR row = q := ⟨_, rfl⟩
  have HW := Lib.hid (weight_any _ row W HR.out (by omega))
  rw [hq] at HW
  have HQ := Lib.hid hq
  have HL := Lib.hid hrl
  have HN := Lib.hid hN
  have HIx := Lib.hid index_filter
  clear k1 k2 k3 hprev hrow hq hrl
  rcases hm with ⟨hm1, rfl⟩ | ⟨hm1, hm2, rfl⟩
  · go_enter Try.func9, Try.ntmps9
    go_upto_region 3 with fail
    clear h1 h2 hN hW
    go_wp2_with fail
    refine HW.out.mono ?_
    rintro e w2 ⟨rfl, rfl⟩
    go_wp2_with fail
    refine (filters_any _).mono ?_
    rintro e w2 ⟨rfl, hb⟩
    have HB2 := Lib.hid hb
    clear hb
    go_wp2_with fail
    go_loopw [9, 10, 23] (fun tv lv kv wr => ∃ k tag least : Nat, k ≤ 5 ∧ kv = .int .i64 (k : Int) ∧ tv = .int .i64 (tag : Int) ∧ lv = .int .i64 (least : Int) ∧ Hid (BestP prev row m k tag least) ∧ Hid (Below W.heap.size W wr)) (fun _ _ kv _ => 5 - (intOf kv).toNat)
    case atStart => exact ⟨0, 0, q, by omega, rfl, rfl, rfl, Lib.hid (by unfold BestP bestN; rw [HQ.out]), HB2⟩
    case round =>
      obtain ⟨k, tag, least, hk, rfl, rfl, rfl, HA, HBw⟩ := hrel
      by_cases hlt : k < 5
      · have hix := index_filter k hlt
        have HAp := Lib.hid (apply_any (filN k) k (filN_is k hlt) _ _ prev row m wr (HP.out.below (Nat.le_refl _) HBw.out) (HR.out.below (Nat.le_refl _) HBw.out) (by rw [HL.out]; omega) hm0)
        obtain ⟨l, hll⟩ : ∃ l, lessR k prev row m = l := ⟨_, rfl⟩
        rw [hll] at HAp
        have hllen : l.length = row.length := by rw [← hll, lessR_len]
        have hwl := weightR_le l
        obtain ⟨n, hn⟩ : ∃ n, weightR l = n := ⟨_, rfl⟩
        have HWl := Lib.hid (fun (v : Value) (W' : World) (h : IsRow W' v l) => weight_any v l W' h (by rw [hllen, HL.out]; omega))
        rw [hn] at HWl
        unfold RowEnd' at HAp
        have HLL := Lib.hid (show weightR (lessR k prev row m) = n by rw [hll]; exact hn)
        clear hll hn hllen hwl
        by_cases hml : n < least
        · have HA2 : Hid (BestP prev row m (k + 1) k n) := Lib.hid (by
            have h := HA.out
            unfold BestP at h ⊢
            rw [bestN, h, HLL.out]
            exact if_pos hml)
          have hml' : (n : Int) < (least : Int) := by omega
          go_wp2_with fail
          refine HAp.out.mono ?_
          rintro e w3 ⟨G, rfl, hown, hb⟩
          have HI := Lib.hid (IsRow.own hown)
          have HB3 : Hid (Below W.heap.size W w3) := Lib.hid (HBw.out.trans (hb.mono HBw.out.size))
          clear hown hb
          go_wp2_with fail
          refine (HWl.out _ _ HI.out).mono ?_
          rintro e w4 ⟨rfl, rfl⟩
          go_wp2_with fail
          go_roundw
          case rel => exact ⟨k + 1, k, n, by omega, by go_num, rfl, rfl, HA2, HB3⟩
          case measure => simp [intOf]; omega
        · have HA2 : Hid (BestP prev row m (k + 1) tag least) := Lib.hid (by
            have h := HA.out
            unfold BestP at h ⊢
            rw [bestN, h, HLL.out]
            exact if_neg hml)
          have hml' : ¬ (n : Int) < (least : Int) := by omega
          go_wp2_with fail
          refine HAp.out.mono ?_
          rintro e w3 ⟨G, rfl, hown, hb⟩
          have HI := Lib.hid (IsRow.own hown)
          have HB3 : Hid (Below W.heap.size W w3) := Lib.hid (HBw.out.trans (hb.mono HBw.out.size))
          clear hown hb
          go_wp2_with fail
          refine (HWl.out _ _ HI.out).mono ?_
          rintro e w4 ⟨rfl, rfl⟩
          go_wp2_with fail
          go_roundw
          case rel => exact ⟨k + 1, tag, least, by omega, by go_num, rfl, rfl, HA2, HB3⟩
          case measure => simp [intOf]; omega
      · obtain rfl : k = 5 := by omega
        have HE : Hid (bestR prev row m = tag) := Lib.hid (by
          have h := HA.out
          unfold BestP at h
          unfold bestR
          rw [h])
        go_wp2_with fail
        go_ret
        exact ⟨by rw [HE.out]; rfl, HB1.out.trans (HBw.out.mono (by have := HB1.out.size; rw [HN.out] at this; exact this))⟩
  · go_enter Try.func9, Try.ntmps9
    go_upto_region 3 with fail
    clear h1 h2 hN hW
    go_wp2_with fail
    refine HW.out.mono ?_
    rintro e w2 ⟨rfl, rfl⟩
    go_wp2_with fail
    refine (filters_any _).mono ?_
    rintro e w2 ⟨rfl, hb⟩
    have HB2 := Lib.hid hb
    clear hb
    go_wp2_with fail
    go_loopw [9, 10, 23] (fun tv lv kv wr => ∃ k tag least : Nat, k ≤ 5 ∧ kv = .int .i64 (k : Int) ∧ tv = .int .i64 (tag : Int) ∧ lv = .int .i64 (least : Int) ∧ Hid (BestP prev row 1 k tag least) ∧ Hid (Below W.heap.size W wr)) (fun _ _ kv _ => 5 - (intOf kv).toNat)
    case atStart => exact ⟨0, 0, q, by omega, rfl, rfl, rfl, Lib.hid (by unfold BestP bestN; rw [HQ.out]), HB2⟩
    case round =>
      obtain ⟨k, tag, least, hk, rfl, rfl, rfl, HA, HBw⟩ := hrel
      by_cases hlt : k < 5
      · have hix := index_filter k hlt
        have HAp := Lib.hid (apply_any (filN k) k (filN_is k hlt) _ _ prev row 1 wr (HP.out.below (Nat.le_refl _) HBw.out) (HR.out.below (Nat.le_refl _) HBw.out) (by rw [HL.out]; omega) hm0)
        obtain ⟨l, hll⟩ : ∃ l, lessR k prev row 1 = l := ⟨_, rfl⟩
        rw [hll] at HAp
        have hllen : l.length = row.length := by rw [← hll, lessR_len]
        have hwl := weightR_le l
        obtain ⟨n, hn⟩ : ∃ n, weightR l = n := ⟨_, rfl⟩
        have HWl := Lib.hid (fun (v : Value) (W' : World) (h : IsRow W' v l) => weight_any v l W' h (by rw [hllen, HL.out]; omega))
        rw [hn] at HWl
        unfold RowEnd' at HAp
        have HLL := Lib.hid (show weightR (lessR k prev row 1) = n by rw [hll]; exact hn)
        clear hll hn hllen hwl
        by_cases hml : n < least
        · have HA2 : Hid (BestP prev row 1 (k + 1) k n) := Lib.hid (by
            have h := HA.out
            unfold BestP at h ⊢
            rw [bestN, h, HLL.out]
            exact if_pos hml)
          have hml' : (n : Int) < (least : Int) := by omega
          go_wp2_with fail
          refine HAp.out.mono ?_
          rintro e w3 ⟨G, rfl, hown, hb⟩
          have HI := Lib.hid (IsRow.own hown)
          have HB3 : Hid (Below W.heap.size W w3) := Lib.hid (HBw.out.trans (hb.mono HBw.out.size))
          clear hown hb
          go_wp2_with fail
          refine (HWl.out _ _ HI.out).mono ?_
          rintro e w4 ⟨rfl, rfl⟩
          go_wp2_with fail
          go_roundw
          case rel => exact ⟨k + 1, k, n, by omega, by go_num, rfl, rfl, HA2, HB3⟩
          case measure => simp [intOf]; omega
        · have HA2 : Hid (BestP prev row 1 (k + 1) tag least) := Lib.hid (by
            have h := HA.out
            unfold BestP at h ⊢
            rw [bestN, h, HLL.out]
            exact if_neg hml)
          have hml' : ¬ (n : Int) < (least : Int) := by omega
          go_wp2_with fail
          refine HAp.out.mono ?_
          rintro e w3 ⟨G, rfl, hown, hb⟩
          have HI := Lib.hid (IsRow.own hown)
          have HB3 : Hid (Below W.heap.size W w3) := Lib.hid (HBw.out.trans (hb.mono HBw.out.size))
          clear hown hb
          go_wp2_with fail
          refine (HWl.out _ _ HI.out).mono ?_
          rintro e w4 ⟨rfl, rfl⟩
          go_wp2_with fail
          go_roundw
          case rel => exact ⟨k + 1, tag, least, by omega, by go_num, rfl, rfl, HA2, HB3⟩
          case measure => simp [intOf]; omega
      · obtain rfl : k = 5 := by omega
        have HE : Hid (bestR prev row 1 = tag) := Lib.hid (by
          have h := HA.out
          unfold BestP at h
          unfold bestR
          rw [h])
        go_wp2_with fail
        go_ret
        exact ⟨by rw [HE.out]; rfl, HB1.out.trans (HBw.out.mono (by have := HB1.out.size; rw [HN.out] at this; exact this))⟩

theorem bestP_any (p r : ByteArray) (c : Int) (w : World) (hp : p.size ≤ 100000) (hr : r.size ≤ 100000) (hc : c ≤ 1000000) :
    Calls Try.prog 9 #[.string p, .string r, .int .i64 c] w fun e w' => e = .returned (.int .i64 (bestR p.data.toList r.data.toList (max c 1).toNat : Nat)) ∧ Below w.heap.size w w' :=
  bestP_in p r c (max c 1).toNat w hp hr (by omega) (by
    by_cases h : 1 ≤ c
    · exact .inl ⟨h, by omega⟩
    · exact .inr ⟨by omega, h, by omega⟩)
end Go.Proofs.Yticliemmplefoaa
