/-
  The document's best and Best; predict's Best.
-/
import Derived.Test.YthdjocbpnmjbgaaPrdD
import Derived.Deep.DeepCutAuto
import Derived.Laws.EntriesVeiled
namespace Go.Proofs.Ythdjocbpnmjbgaa
open Go.RowKit Oct Prd

theorem IsRow.bytes {W : World} {g cap : Nat} {P : ByteArray} {e : TypeId} {fr : Nat × Nat} (h : W.heap[g]? = some (.cells (bytesRow P cap) e fr)) : IsRow W (.slice (some ⟨g, 0, none⟩) P.size cap) P.data.toList := by
  have hl : P.data.toList.length = P.size := by simp
  refine ⟨some ⟨g, 0, none⟩, cap, by rw [hl], fun j hj => ⟨g, 0, rfl, ?_⟩⟩
  rw [Nat.zero_add]
  have hb : (bytesRow P cap)[j]? = some (.int .u8 (P.data.toList[j].toNat : Int)) := by
    unfold bytesRow
    rw [Array.getElem?_append_left (by simp; omega), Array.getElem?_map]
    have : P.data[j]? = some P.data.toList[j] := by
      rw [← Array.getElem?_toList, List.getElem?_eq_getElem hj]
    rw [this]
    rfl
  simp [World.cell?, h, hb]
/-- The state of the search behind k filters, as the document's best keeps it. -/
def BestAt (prev row : List UInt8) (c k tag least : Nat) : Prop := (k = 0 ∧ tag = 0 ∧ least = 0) ∨ (1 ≤ k ∧ bestN prev row c k = (tag, least))
theorem BestAt.next_take {prev row : List UInt8} {c k tag least n : Nat} (h : BestAt prev row c k tag least) (hn : n = weightR (lessR k prev row c)) (h2 : k = 0 ∨ n < least) : BestAt prev row c (k + 1) k n := by
  refine .inr ⟨by omega, ?_⟩
  rcases h with ⟨rfl, rfl, rfl⟩ | ⟨h1, h3⟩
  · rw [bestN_one, hn, lessR_zero]
  · have h4 : n < least := by omega
    rw [bestN, h3, ← hn]
    exact if_pos h4
theorem BestAt.next_leave {prev row : List UInt8} {c k tag least n : Nat} (h : BestAt prev row c k tag least) (hn : n = weightR (lessR k prev row c)) (h1 : ¬ k = 0) (h2 : ¬ n < least) : BestAt prev row c (k + 1) tag least := by
  refine .inr ⟨by omega, ?_⟩
  rcases h with ⟨rfl, _, _⟩ | ⟨_, h3⟩
  · exact absurd rfl h1
  · rw [bestN, h3, ← hn]
    exact if_neg h2
theorem BestAt.fin {prev row : List UInt8} {c tag least : Nat} (h : BestAt prev row c 5 tag least) : bestR prev row c = tag := by
  rcases h with ⟨h, _⟩ | ⟨_, h⟩
  · omega
  · unfold bestR; rw [h]
theorem bestN_bound (prev row : List UInt8) (c : Nat) : ∀ k, (bestN prev row c k).2 ≤ 128 * row.length
  | 0 => weightR_le row
  | k + 1 => by
    rw [bestN]
    split
    · have := weightR_le (lessR k prev row c)
      rw [lessR_len] at this
      exact this
    · exact bestN_bound prev row c k
theorem BestAt.bounds {prev row : List UInt8} {c k tag least : Nat} (h : BestAt prev row c k tag least) (hk : k ≤ 5) : tag < 5 ∧ least ≤ 128 * row.length := by
  rcases h with ⟨rfl, rfl, rfl⟩ | ⟨h1, h3⟩
  · omega
  · have h4 := bestN_lt prev row c k h1
    have h5 := bestN_bound prev row c k
    rw [h3] at h4 h5
    exact ⟨by show tag < 5; have : tag < k := h4; omega, h5⟩

set_option maxRecDepth 100000 in
set_option maxHeartbeats 4000000 in
theorem bestD_any (pv rv : Value) (prev row : List UInt8) (c : Nat) (w : World) (hp : IsRow w pv prev) (hr : IsRow w rv row) (hl : row.length ≤ 100000) (hc : c ≤ 1000000) :
    Calls Try.prog 26 #[pv, rv, .int .i64 (c : Int)] w fun e w' => e = .returned (.int .i64 (bestR prev row c : Nat)) ∧ Below w.heap.size w w' := by
  obtain ⟨N, hN⟩ : ∃ N, w.heap.size = N := ⟨_, rfl⟩
  obtain ⟨n, hn⟩ : ∃ n, row.length = n := ⟨_, rfl⟩
  have HP := Lib.hid hp
  have HR := Lib.hid hr
  have HN := Lib.hid hN
  have HL := Lib.hid hn
  rw [hN]
  have hnb : n ≤ 100000 := by omega
  have HB0 := Lib.hid (show Below N w w by rw [← hN]; exact Below.refl _ _)
  clear hp hr
  go_enter Try.func26, Try.ntmps26
  go_wp2_with fail
  go_loopw [7, 8, 9] (fun tv lv kv wr => ∃ k tag least : Nat, k ≤ 5 ∧ kv = .int .i64 (k : Int) ∧ tv = .int .i64 (tag : Int) ∧ lv = .int .i64 (least : Int) ∧ Hid (BestAt prev row c k tag least) ∧ Hid (Below N w wr)) (fun _ _ kv _ => 5 - (intOf kv).toNat)
  case atStart => exact ⟨0, 0, 0, by omega, rfl, rfl, rfl, Lib.hid (.inl ⟨rfl, rfl, rfl⟩), HB0⟩
  case round =>
    obtain ⟨k, tag, least, hk, rfl, rfl, rfl, HA, HBw⟩ := hrel
    obtain ⟨htag, hleast⟩ := HA.out.bounds hk
    rw [HL.out] at hleast
    by_cases hlt : k < 5
    · have HLe := Lib.hid (lessD_any k pv rv prev row c wr hlt (HP.out.below (by rw [HN.out]; exact Nat.le_refl _) HBw.out) (HR.out.below (by rw [HN.out]; exact Nat.le_refl _) HBw.out) (by rw [HL.out]; omega) hc)
      obtain ⟨l, hll⟩ : ∃ l, lessR k prev row c = l := ⟨_, rfl⟩
      have hllen : l.length = n := by rw [← hll, lessR_len, HL.out]
      rw [hll] at HLe
      unfold OwnEnd at HLe
      rw [hllen] at HLe
      have HLL := Lib.hid hll
      have HLN := Lib.hid hllen
      clear hll hllen
      go_wp2_with fail
      refine HLe.out.mono ?_
      rintro e w2 ⟨A, C, rfl, hown, hb⟩
      have HI := Lib.hid (IsRow.own hown)
      have HB2 : Hid (Below N w w2) := Lib.hid (HBw.out.trans (hb.mono (by have := HBw.out.size; rw [HN.out] at this; exact this)))
      clear hown hb
      go_wp2_with fail
      go_loopw [11, 12] (fun s i w3 => ∃ j m : Nat, j ≤ n ∧ i = .int .i64 (j : Int) ∧ s = .int .i64 (m : Int) ∧ Hid (m = weightR (l.take j)) ∧ ∃ d, w3 = w2.drewN d) (fun _ i _ => n - (intOf i).toNat)
      case atStart => exact ⟨0, 0, by omega, rfl, rfl, Lib.hid rfl, 0, rfl⟩
      case round =>
        obtain ⟨j, m, hj, rfl, rfl, HM, dd, rfl⟩ := hrel
        have hmb : m ≤ 128 * n := by
          rw [HM.out]
          have := weightR_le (l.take j)
          rw [List.length_take] at this
          omega
        by_cases hjn : j < n
        · have hkl : j < l.length := by rw [HLN.out]; exact hjn
          obtain ⟨b, o, C', hv2, hcells⟩ := HI.out.at0 (by omega)
          rw [HLN.out] at hv2
          injection hv2 with e1 e2 e3
          subst e1 e3
          have hc1 := hcells j hkl
          obtain ⟨d, hd⟩ : ∃ d : UInt8, l[j] = d := ⟨_, rfl⟩
          rw [hd] at hc1
          obtain ⟨d1, d2⟩ := byteR d
          obtain ⟨q, hq⟩ : ∃ q, absB d = q := ⟨_, rfl⟩
          have hq2 : min (d.toNat : Int) (256 - (d.toNat : Int)) = (q : Int) := by rw [← hq]; exact (absB_int d).symm
          have hqb : q ≤ 128 := by rw [← hq]; exact absB_le d
          have HS := Lib.hid (show m + q = weightR (l.take (j + 1)) by rw [weight_step l j hkl, ← HM.out, hd, hq])
          have j0 : (0 : Int) ≤ (j : Int) := by omega
          have j1 : (j : Int) < (n : Int) := by omega
          clear hcells hd hq
          go_wp2_with fail
          go_quiet (fail)
          go_wp2_with fail
          go_roundw
          case rel => exact ⟨j + 1, m + q, by omega, by go_num, by congr 1; omega, HS, _, rfl⟩
          case measure => simp [intOf]; omega
        · obtain rfl : j = n := by omega
          have HE := Lib.hid (show m = weightR l by rw [HM.out, List.take_of_length_le (by rw [HLN.out]; exact Nat.le_refl _)])
          have HE2 := Lib.hid (show m = weightR (lessR k prev row c) by rw [HLL.out]; exact HE.out)
          by_cases hk0 : k = 0
          · have HA2 := Lib.hid (HA.out.next_take HE2.out (.inl hk0))
            subst hk0
            go_wp2_with fail
            go_roundw
            case rel => exact ⟨1, 0, m, by omega, rfl, rfl, rfl, HA2, Lib.hid (below_drewN HB2.out _)⟩
            case measure => simp [intOf]
          · have hk0' : ((k : Int) == 0) = false := by
              refine beq_eq_false_iff_ne.2 fun e => hk0 ?_
              omega
            by_cases hml : m < least
            · have HA2 := Lib.hid (HA.out.next_take HE2.out (.inr hml))
              have hml' : (m : Int) < (least : Int) := by omega
              go_wp2_with fail
              go_roundw
              case rel => exact ⟨k + 1, k, m, by omega, by go_num, rfl, rfl, HA2, Lib.hid (below_drewN HB2.out _)⟩
              case measure => simp [intOf]; omega
            · have HA2 := Lib.hid (HA.out.next_leave HE2.out hk0 hml)
              have hml' : decide ((m : Int) < (least : Int)) = false := decide_eq_false (by omega)
              go_wp2_with fail
              go_roundw
              case rel => exact ⟨k + 1, tag, least, by omega, by go_num, rfl, rfl, HA2, Lib.hid (below_drewN HB2.out _)⟩
              case measure => simp [intOf]; omega
    · obtain rfl : k = 5 := by omega
      have HE := Lib.hid HA.out.fin
      go_wp2_with fail
      go_ret
      exact ⟨by rw [HE.out]; rfl, HBw.out⟩

/-! ### Best, the document's and predict's. -/
theorem two_heaps (w : World) (X Y : Obj) : (((w.alloc X).alloc Y).drew.drew).heap[w.heap.size]? = some X ∧ (((w.alloc X).alloc Y).drew.drew).heap[w.heap.size + 1]? = some Y ∧ Below w.heap.size w (((w.alloc X).alloc Y).drew.drew) := by
  refine ⟨?_, ?_, ?_⟩
  · exact (Below.heap_alloc (w.alloc X) Y w.heap.size (by simp)).trans (heap_alloc_new w _)
  · have := heap_alloc_new (w.alloc X) Y
    rw [World.size_alloc] at this
    exact this
  · exact below_drewN (((Below.refl _ w).alloc (Nat.le_refl _) X).alloc (by simp) Y) 2
set_option maxRecDepth 100000 in
set_option maxHeartbeats 4000000 in
theorem bestS_any (p r : ByteArray) (c : Int) (w : World) (_hp : p.size ≤ 100000) (hr : r.size ≤ 100000) (hc : c ≤ 1000000) :
    Calls Try.prog 17 #[.string p, .string r, .int .i64 c] w fun e w' => e = .returned (.int .i64 (bestR p.data.toList r.data.toList (max c 1).toNat : Nat)) ∧ Below w.heap.size w w' := by
  have hcv := fun (P : ByteArray) (W : World) => run_bytes_of_string (P := Try.prog) W 9 43 5 P Try.underlying9 Try.underlying43 Try.underlying5
  have hrl : r.data.toList.length = r.size := by simp
  by_cases h1 : 1 ≤ c
  · obtain ⟨m, rfl⟩ : ∃ m : Nat, c = (m : Int) := ⟨c.toNat, by omega⟩
    have e : (max (m : Int) 1).toNat = m := by omega
    rw [e]
    go_enter Try.func17, Try.ntmps17
    go_wp2_with fail
    refine (bestD_any _ _ p.data.toList r.data.toList m _ (IsRow.bytes (two_heaps w _ _).1) (IsRow.bytes (two_heaps w _ _).2.1) (by omega) (by omega)).mono ?_
    rintro e w1 ⟨rfl, hb⟩
    have HB1 := Lib.hid ((two_heaps w _ _).2.2.trans (hb.mono (two_heaps w _ _).2.2.size))
    clear hb
    go_wp2_with fail
    go_ret
    exact ⟨rfl, HB1.out⟩
  · have h1' : c ≤ 1 := by omega
    have e : (max c 1).toNat = 1 := by omega
    rw [e]
    go_enter Try.func17, Try.ntmps17
    go_wp2_with fail
    refine (bestD_any _ _ p.data.toList r.data.toList 1 _ (IsRow.bytes (two_heaps w _ _).1) (IsRow.bytes (two_heaps w _ _).2.1) (by omega) (by omega)).mono ?_
    rintro e w1 ⟨rfl, hb⟩
    have HB1 := Lib.hid ((two_heaps w _ _).2.2.trans (hb.mono (two_heaps w _ _).2.2.size))
    clear hb
    go_wp2_with fail
    go_ret
    exact ⟨rfl, HB1.out⟩
theorem prd_set {B k : Nat} {w w' : World} (h : Below B w w') (hk : B ≤ k) (i : Nat) (u : Value) : Below B w (w'.setCell ⟨k, i, none⟩ u) :=
  ⟨h.os, h.tape, h.output, by simpa [World.setCell] using h.size, fun b hb => (Below.heap_setCell w' ⟨k, i, none⟩ u b (by show b ≠ k; omega)).trans (h.block b hb)⟩
set_option maxHeartbeats 1000000 in
theorem filters_any (w : World) : Calls Try.prog 32 #[] w fun e w' => e = .returned (.agg #[.func (.func (filN 0)) #[] #[], .func (.func (filN 1)) #[] #[], .func (.func (filN 2)) #[] #[], .func (.func (filN 3)) #[] #[], .func (.func (filN 4)) #[] #[]]) ∧ Below w.heap.size w w' := by
  have HB0 := Lib.hid (Below.refl w.heap.size w)
  go_enter Try.func32, Try.ntmps32
  go_upto_region 1 with fail
  obtain ⟨W, hW⟩ : ∃ W, w.alloc (.cells #[.nilFunc, .nilFunc, .nilFunc, .nilFunc, .nilFunc] 49) = W := ⟨_, rfl⟩
  obtain ⟨G, hG⟩ : ∃ G, w.heap.size = G := ⟨_, rfl⟩
  have hB := Blk.new w 49 #[.nilFunc, .nilFunc, .nilFunc, .nilFunc, .nilFunc]
  have HB1 := Lib.hid (HB0.out.alloc (Nat.le_refl _) (.cells #[.nilFunc, .nilFunc, .nilFunc, .nilFunc, .nilFunc] 49))
  rw [hW, hG] at hB HB1
  rw [hW]
  rw [hG]
  have HG := Lib.hid hG
  have c0 := hB.cell 0
  have c1 := hB.cell 1
  have c2 := hB.cell 2
  have c3 := hB.cell 3
  have c4 := hB.cell 4
  have f0 := hB.frozen 0
  have f1 := hB.frozen 1
  have f2 := hB.frozen 2
  have f3 := hB.frozen 3
  have f4 := hB.frozen 4
  simp only [List.getElem?_toArray, List.getElem?_cons_zero, List.getElem?_cons_succ] at c0 c1 c2 c3 c4
  clear hW hG hB
  go_wp2_with fail
  rw [HG.out]
  exact bodyPost_ret (v := .agg #[.func (.func (filN 0)) #[] #[], .func (.func (filN 1)) #[] #[], .func (.func (filN 2)) #[] #[], .func (.func (filN 3)) #[] #[], .func (.func (filN 4)) #[] #[]]) (by simp [results, Try.results32, go_sem, c0, c1, c2, c3, c4, filN]) rfl ⟨rfl, prd_set (prd_set (prd_set (prd_set (prd_set HB1.out (Nat.le_refl _) _ _) (Nat.le_refl _) _ _) (Nat.le_refl _) _ _) (Nat.le_refl _) _ _) (Nat.le_refl _) _ _⟩

theorem conv_at (P : ByteArray) (W : World) : ∃ c X, (∃ fr, X = Obj.cells (bytesRow P c) 5 fr) ∧ Sem.run Try.prog (convert 9 43 (.string P)) W = .ok (.slice (some ⟨W.heap.size, 0, none⟩) P.size c) (W.drew.alloc X) :=
  ⟨_, _, ⟨_, rfl⟩, run_bytes_of_string (P := Try.prog) W 9 43 5 P Try.underlying9 Try.underlying43 Try.underlying5⟩
theorem index_filter (k : Nat) (hk : k < 5) (W : World) : Sem.run Try.prog (Instr.index 49 (.agg #[.func (.func (filN 0)) #[] #[], .func (.func (filN 1)) #[] #[], .func (.func (filN 2)) #[] #[], .func (.func (filN 3)) #[] #[], .func (.func (filN 4)) #[] #[]]) (.int .i64 (k : Int))) W = .ok (.func (.func (filN k)) #[] #[]) W := by
  rcases k with _ | _ | _ | _ | _ | k
  · kernel_rfl
  · kernel_rfl
  · kernel_rfl
  · kernel_rfl
  · kernel_rfl
  · omega
/-- The search of predict's Best behind k filters. -/
def BestP (prev row : List UInt8) (c k tag least : Nat) : Prop := bestN prev row c k = (tag, least)

set_option maxRecDepth 100000 in
set_option maxHeartbeats 4000000 in
theorem bestP_in (p r : ByteArray) (c : Int) (m : Nat) (w : World) (_hp : p.size ≤ 100000) (hr : r.size ≤ 100000) (hm0 : m ≤ 1000000) (hm : 1 ≤ c ∧ c = (m : Int) ∨ c ≤ 1 ∧ ¬ 1 ≤ c ∧ m = 1) :
    Calls Try.prog 16 #[.string p, .string r, .int .i64 c] w fun e w' => e = .returned (.int .i64 (bestR p.data.toList r.data.toList m : Nat)) ∧ Below w.heap.size w w' := by
  obtain ⟨c1, X, hX, h1⟩ := conv_at p w
  obtain ⟨c2, Y, hY, h2⟩ := conv_at r (w.alloc X).drew
  have hrl : r.data.toList.length = r.size := by simp
  obtain ⟨N, hN⟩ : ∃ N, w.heap.size = N := ⟨_, rfl⟩
  obtain ⟨W, hW⟩ : ∃ W, ((w.alloc X).alloc Y).drew.drew = W := ⟨_, rfl⟩
  obtain ⟨k1, k2, k3⟩ := two_heaps w X Y
  obtain ⟨fr1, rfl⟩ := hX
  obtain ⟨fr2, rfl⟩ := hY
  rw [hN, hW] at k1 k2 k3
  have HP := Lib.hid (IsRow.bytes k1)
  have HR := Lib.hid (IsRow.bytes k2)
  have HB1 := Lib.hid k3
  obtain ⟨prev, hprev⟩ : ∃ prev, p.data.toList = prev := ⟨_, rfl⟩
  obtain ⟨row, hrow⟩ : ∃ row, r.data.toList = row := ⟨_, rfl⟩
  rw [hprev] at HP ⊢
  rw [hrow] at HR hrl ⊢
  rw [hN]
  obtain ⟨q, hq⟩ : ∃ q, weightR row = q := ⟨_, rfl⟩
  have HW := Lib.hid (weight_any _ row W HR.out (by omega))
  rw [hq] at HW
  have HQ := Lib.hid hq
  have HL := Lib.hid hrl
  have HN := Lib.hid hN
  have HIx := Lib.hid index_filter
  clear k1 k2 k3 hprev hrow hq hrl
  rcases hm with ⟨hm1, rfl⟩ | ⟨hm1, hm2, rfl⟩
  · go_enter Try.func16, Try.ntmps16
    go_upto_region 3 with fail
    clear h1 h2 hN hW
    go_wp2_with fail
    refine HW.out.mono ?_
    rintro e w2 ⟨rfl, rfl⟩
    go_wp2_with fail
    refine (filters_any _).mono ?_
    rintro e w2 ⟨rfl, hb⟩
    have HB2 := Lib.hid hb
    clear hb
    go_wp2_with fail
    go_loopw [9, 10, 23] (fun tv lv kv wr => ∃ k tag least : Nat, k ≤ 5 ∧ kv = .int .i64 (k : Int) ∧ tv = .int .i64 (tag : Int) ∧ lv = .int .i64 (least : Int) ∧ Hid (BestP prev row m k tag least) ∧ Hid (Below W.heap.size W wr)) (fun _ _ kv _ => 5 - (intOf kv).toNat)
    case atStart => exact ⟨0, 0, q, by omega, rfl, rfl, rfl, Lib.hid (by unfold BestP bestN; rw [HQ.out]), HB2⟩
    case round =>
      obtain ⟨k, tag, least, hk, rfl, rfl, rfl, HA, HBw⟩ := hrel
      by_cases hlt : k < 5
      · have hix := index_filter k hlt
        have HAp := Lib.hid (apply_any (filN k) k (filN_is k hlt) _ _ prev row m wr (HP.out.below (Nat.le_refl _) HBw.out) (HR.out.below (Nat.le_refl _) HBw.out) (by rw [HL.out]; omega) hm0)
        obtain ⟨l, hll⟩ : ∃ l, lessR k prev row m = l := ⟨_, rfl⟩
        rw [hll] at HAp
        have hllen : l.length = row.length := by rw [← hll, lessR_len]
        have hwl := weightR_le l
        obtain ⟨n, hn⟩ : ∃ n, weightR l = n := ⟨_, rfl⟩
        have HWl := Lib.hid (fun (v : Value) (W' : World) (h : IsRow W' v l) => weight_any v l W' h (by rw [hllen, HL.out]; omega))
        rw [hn] at HWl
        unfold RowEnd' at HAp
        have HLL := Lib.hid (show weightR (lessR k prev row m) = n by rw [hll]; exact hn)
        clear hll hn hllen hwl
        by_cases hml : n < least
        · have HA2 : Hid (BestP prev row m (k + 1) k n) := Lib.hid (by
            have h := HA.out
            unfold BestP at h ⊢
            rw [bestN, h, HLL.out]
            exact if_pos hml)
          have hml' : (n : Int) < (least : Int) := by omega
          go_wp2_with fail
          refine HAp.out.mono ?_
          rintro e w3 ⟨G, rfl, hown, hb⟩
          have HI := Lib.hid (IsRow.own hown)
          have HB3 : Hid (Below W.heap.size W w3) := Lib.hid (HBw.out.trans (hb.mono HBw.out.size))
          clear hown hb
          go_wp2_with fail
          refine (HWl.out _ _ HI.out).mono ?_
          rintro e w4 ⟨rfl, rfl⟩
          go_wp2_with fail
          go_roundw
          case rel => exact ⟨k + 1, k, n, by omega, by go_num, rfl, rfl, HA2, HB3⟩
          case measure => simp [intOf]; omega
        · have HA2 : Hid (BestP prev row m (k + 1) tag least) := Lib.hid (by
            have h := HA.out
            unfold BestP at h ⊢
            rw [bestN, h, HLL.out]
            exact if_neg hml)
          have hml' : ¬ (n : Int) < (least : Int) := by omega
          go_wp2_with fail
          refine HAp.out.mono ?_
          rintro e w3 ⟨G, rfl, hown, hb⟩
          have HI := Lib.hid (IsRow.own hown)
          have HB3 : Hid (Below W.heap.size W w3) := Lib.hid (HBw.out.trans (hb.mono HBw.out.size))
          clear hown hb
          go_wp2_with fail
          refine (HWl.out _ _ HI.out).mono ?_
          rintro e w4 ⟨rfl, rfl⟩
          go_wp2_with fail
          go_roundw
          case rel => exact ⟨k + 1, tag, least, by omega, by go_num, rfl, rfl, HA2, HB3⟩
          case measure => simp [intOf]; omega
      · obtain rfl : k = 5 := by omega
        have HE : Hid (bestR prev row m = tag) := Lib.hid (by
          have h := HA.out
          unfold BestP at h
          unfold bestR
          rw [h])
        go_wp2_with fail
        go_ret
        exact ⟨by rw [HE.out]; rfl, HB1.out.trans (HBw.out.mono (by have := HB1.out.size; rw [HN.out] at this; exact this))⟩
  · go_enter Try.func16, Try.ntmps16
    go_upto_region 3 with fail
    clear h1 h2 hN hW
    go_wp2_with fail
    refine HW.out.mono ?_
    rintro e w2 ⟨rfl, rfl⟩
    go_wp2_with fail
    refine (filters_any _).mono ?_
    rintro e w2 ⟨rfl, hb⟩
    have HB2 := Lib.hid hb
    clear hb
    go_wp2_with fail
    go_loopw [9, 10, 23] (fun tv lv kv wr => ∃ k tag least : Nat, k ≤ 5 ∧ kv = .int .i64 (k : Int) ∧ tv = .int .i64 (tag : Int) ∧ lv = .int .i64 (least : Int) ∧ Hid (BestP prev row 1 k tag least) ∧ Hid (Below W.heap.size W wr)) (fun _ _ kv _ => 5 - (intOf kv).toNat)
    case atStart => exact ⟨0, 0, q, by omega, rfl, rfl, rfl, Lib.hid (by unfold BestP bestN; rw [HQ.out]), HB2⟩
    case round =>
      obtain ⟨k, tag, least, hk, rfl, rfl, rfl, HA, HBw⟩ := hrel
      by_cases hlt : k < 5
      · have hix := index_filter k hlt
        have HAp := Lib.hid (apply_any (filN k) k (filN_is k hlt) _ _ prev row 1 wr (HP.out.below (Nat.le_refl _) HBw.out) (HR.out.below (Nat.le_refl _) HBw.out) (by rw [HL.out]; omega) hm0)
        obtain ⟨l, hll⟩ : ∃ l, lessR k prev row 1 = l := ⟨_, rfl⟩
        rw [hll] at HAp
        have hllen : l.length = row.length := by rw [← hll, lessR_len]
        have hwl := weightR_le l
        obtain ⟨n, hn⟩ : ∃ n, weightR l = n := ⟨_, rfl⟩
        have HWl := Lib.hid (fun (v : Value) (W' : World) (h : IsRow W' v l) => weight_any v l W' h (by rw [hllen, HL.out]; omega))
        rw [hn] at HWl
        unfold RowEnd' at HAp
        have HLL := Lib.hid (show weightR (lessR k prev row 1) = n by rw [hll]; exact hn)
        clear hll hn hllen hwl
        by_cases hml : n < least
        · have HA2 : Hid (BestP prev row 1 (k + 1) k n) := Lib.hid (by
            have h := HA.out
            unfold BestP at h ⊢
            rw [bestN, h, HLL.out]
            exact if_pos hml)
          have hml' : (n : Int) < (least : Int) := by omega
          go_wp2_with fail
          refine HAp.out.mono ?_
          rintro e w3 ⟨G, rfl, hown, hb⟩
          have HI := Lib.hid (IsRow.own hown)
          have HB3 : Hid (Below W.heap.size W w3) := Lib.hid (HBw.out.trans (hb.mono HBw.out.size))
          clear hown hb
          go_wp2_with fail
          refine (HWl.out _ _ HI.out).mono ?_
          rintro e w4 ⟨rfl, rfl⟩
          go_wp2_with fail
          go_roundw
          case rel => exact ⟨k + 1, k, n, by omega, by go_num, rfl, rfl, HA2, HB3⟩
          case measure => simp [intOf]; omega
        · have HA2 : Hid (BestP prev row 1 (k + 1) tag least) := Lib.hid (by
            have h := HA.out
            unfold BestP at h ⊢
            rw [bestN, h, HLL.out]
            exact if_neg hml)
          have hml' : ¬ (n : Int) < (least : Int) := by omega
          go_wp2_with fail
          refine HAp.out.mono ?_
          rintro e w3 ⟨G, rfl, hown, hb⟩
          have HI := Lib.hid (IsRow.own hown)
          have HB3 : Hid (Below W.heap.size W w3) := Lib.hid (HBw.out.trans (hb.mono HBw.out.size))
          clear hown hb
          go_wp2_with fail
          refine (HWl.out _ _ HI.out).mono ?_
          rintro e w4 ⟨rfl, rfl⟩
          go_wp2_with fail
          go_roundw
          case rel => exact ⟨k + 1, tag, least, by omega, by go_num, rfl, rfl, HA2, HB3⟩
          case measure => simp [intOf]; omega
      · obtain rfl : k = 5 := by omega
        have HE : Hid (bestR prev row 1 = tag) := Lib.hid (by
          have h := HA.out
          unfold BestP at h
          unfold bestR
          rw [h])
        go_wp2_with fail
        go_ret
        exact ⟨by rw [HE.out]; rfl, HB1.out.trans (HBw.out.mono (by have := HB1.out.size; rw [HN.out] at this; exact this))⟩

theorem bestP_any (p r : ByteArray) (c : Int) (w : World) (hp : p.size ≤ 100000) (hr : r.size ≤ 100000) (hc : c ≤ 1000000) :
    Calls Try.prog 16 #[.string p, .string r, .int .i64 c] w fun e w' => e = .returned (.int .i64 (bestR p.data.toList r.data.toList (max c 1).toNat : Nat)) ∧ Below w.heap.size w w' :=
  bestP_in p r c (max c 1).toNat w hp hr (by omega) (by
    by_cases h : 1 ≤ c
    · exact .inl ⟨h, by omega⟩
    · exact .inr ⟨by omega, h, by omega⟩)
end Go.Proofs.Ythdjocbpnmjbgaa
