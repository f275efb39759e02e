/-
  For all arguments AsciiWhite returns true: a white byte ahead of the end marker changes nothing of what is decoded, and neither does the case of hexadecimal digits (no condition on the arguments).
-/
import Derived.Test.YtgfohfgallojkaaMW01
namespace Go.Proofs.Ytgfohfgallojkaa
open Go.ChangeShapes Go.WideShapes Go.ChangeAt Go.RowKit Oct Asc Go.Shelf

/-! ### A block that '[]byte(s)' has laid: the run-time's mark lies behind its cells. -/
def BlkF (w : World) (g : Nat) (t : TypeId) (cs : Array Value) (n : Nat) : Prop := w.heap[g]? = some (.cells cs t (n, n + 1))
theorem BlkF.cell {w : World} {g n : Nat} {t : TypeId} {cs : Array Value} (h : BlkF w g t cs n) (i : Nat) : w.cell? ⟨g, i, none⟩ = cs[i]? := cell_of_row w g i cs t (n, n + 1) h
theorem BlkF.frozen {w : World} {g n : Nat} {t : TypeId} {cs : Array Value} (h : BlkF w g t cs n) {i : Nat} (hi : i < n) : w.frozen? ⟨g, i, none⟩ = false := by
  unfold BlkF at h
  simp [World.frozen?, h]
  omega
theorem BlkF.set_ {w : World} {g n : Nat} {t : TypeId} {cs : Array Value} (h : BlkF w g t cs n) (i : Nat) (u : Value) : BlkF (w.setCell ⟨g, i, none⟩ u) g t (cs.setIfInBounds i u) n := by
  unfold BlkF at h ⊢
  simp [World.setCell, Array.getElem?_modify, h]

/-! ### Small letters. -/
def low1 (c : UInt8) : UInt8 := if 65 ≤ c.toNat ∧ c.toNat ≤ 70 then c + 32 else c
theorem low_like (c : UInt8) : likeB c (low1 c) := by
  have h := of_decide_eq_true (p := whiteS c = whiteS (low1 c) ∧ (c = 62 ↔ low1 c = 62) ∧ digitS c = digitS (low1 c)) (all_bytes (fun c => decide (whiteS c = whiteS (low1 c) ∧ (c = 62 ↔ low1 c = 62) ∧ digitS c = digitS (low1 c))) (by decide +kernel) c)
  exact h
def lowK (l : List UInt8) (i k : Nat) : List UInt8 := l.mapIdx fun j c => if i ≤ j ∧ j < k then low1 c else c
theorem lowK_len (l : List UInt8) (i k : Nat) : (lowK l i k).length = l.length := by unfold lowK; simp
theorem lowK_at (l : List UInt8) (i k j : Nat) (h : j < l.length) : (lowK l i k)[j]'(by rw [lowK_len]; exact h) = if i ≤ j ∧ j < k then low1 l[j] else l[j] := by
  unfold lowK
  rw [List.getElem_mapIdx]
theorem lowK_start (l : List UInt8) (i : Nat) : lowK l i i = l := by
  apply List.ext_getElem (lowK_len l i i)
  intro j h1 h2
  rw [lowK_at l i i j h2, if_neg (by omega)]
theorem lowK_next (l : List UInt8) (i k : Nat) (hi : i ≤ k) (h : k < l.length) : (lowK l i k).set k (low1 l[k]) = lowK l i (k + 1) := by
  apply List.ext_getElem (by rw [List.length_set, lowK_len, lowK_len])
  intro j h1 h2
  rw [lowK_len] at h2
  rw [List.getElem_set, lowK_at l i (k + 1) j h2]
  by_cases e : k = j
  · subst e
    rw [if_pos rfl, if_pos ⟨hi, by omega⟩]
  · rw [if_neg e, lowK_at l i k j h2]
    by_cases h3 : i ≤ j ∧ j < k
    · rw [if_pos h3, if_pos ⟨h3.1, by omega⟩]
    · rw [if_neg h3, if_neg (by omega)]
theorem lowK_same (l : List UInt8) (i k : Nat) (hi : i ≤ k) (h : k < l.length) (hc : low1 l[k] = l[k]) : lowK l i k = lowK l i (k + 1) := by
  rw [← lowK_next l i k hi h, hc]
  apply List.ext_getElem (by rw [List.length_set])
  intro j h1 h2
  rw [List.getElem_set]
  by_cases e : k = j
  · subst e
    rw [if_pos rfl, lowK_at l i k k h, if_neg (by omega)]
  · rw [if_neg e]
theorem LikeL.of : ∀ (l m : List UInt8), l.length = m.length → (∀ j (h : j < l.length) (h' : j < m.length), likeB l[j] m[j]) → LikeL l m
  | [], [], _, _ => .nil
  | a :: s, b :: t, hl, h => .cons (by have := h 0 (by simp) (by simp); simpa using this) (LikeL.of s t (by simpa using hl) fun j h1 h2 => by have := h (j + 1) (by simpa using h1) (by simpa using h2); simpa using this)
theorem lowK_like (l : List UInt8) (i k : Nat) : LikeL l (lowK l i k) := by
  refine LikeL.of _ _ (lowK_len l i k).symm fun j h h' => ?_
  rw [lowK_at l i k j h]
  split
  · exact low_like _
  · exact ⟨rfl, Iff.rfl, rfl⟩

theorem below_of_drew {B n : Nat} {w w' : World} (h : Below B (w.drewN n) w') : Below B w w' := ⟨h.os, h.tape, h.output, h.size, h.block⟩
theorem bytesRow_list (P : ByteArray) (cap : Nat) : ∃ Zs : List UInt8, bytesRow P cap = (cellsOf (P.data.toList ++ Zs)).toArray := by
  refine ⟨List.replicate (cap - P.size) 0, ?_⟩
  unfold bytesRow cellsOf
  rw [List.map_append, List.map_replicate]
  apply Array.ext'
  simp
/-- What AsciiWhite asks of the decoders. -/
structure WhiteAs (s Wt H F : ByteArray) (n i k : Nat) : Prop where
  hH : (hexB s ++ ⟨#[62]⟩ : ByteArray) = H
  hF : (⟨(fiveE s.data.toList).toArray⟩ ++ ⟨#[126, 62]⟩ : ByteArray) = F
  zH : H.size ≤ 6001
  zF : F.size ≤ 15002
  oH : 1 ≤ H.size
  oF : 2 ≤ F.size
  a1 : i < H.size → unhexF (H.extract 0 i ++ Wt ++ H.extract i H.size) n = (0, s.data.toList)
  a2 : k < F.size - 1 → unfiveF (F.extract 0 k ++ Wt ++ F.extract k F.size) n = (0, s.data.toList)
  a3 : ∀ X : ByteArray, X.data.toList = lowK H.data.toList i H.size → unhexF X n = (0, s.data.toList)
theorem white_as (s Wt : ByteArray) (b : UInt8) (hs : s.size ≤ 3000) (hW : Wt.data.toList = [b]) (hb : whiteS b = true) : ∃ H F, ∀ i k, WhiteAs s Wt H F s.size i k := by
  obtain ⟨H, hH⟩ : ∃ H : ByteArray, (hexB s ++ ⟨#[62]⟩ : ByteArray) = H := ⟨_, rfl⟩
  obtain ⟨F, hF⟩ : ∃ F : ByteArray, (⟨(fiveE s.data.toList).toArray⟩ ++ ⟨#[126, 62]⟩ : ByteArray) = F := ⟨_, rfl⟩
  have lH : H.data.toList = hexS s.data.toList ++ [62] := by rw [← hH]; exact hex_list s
  have lF : F.data.toList = fiveE s.data.toList ++ [126, 62] := by rw [← hF]; exact five_list s
  have ls := len_of s
  have sH : H.size = (hexS s.data.toList).length + 1 := by rw [len_size lH, List.length_append]; rfl
  have sF : F.size = (fiveE s.data.toList).length + 2 := by rw [len_size lF, List.length_append]; rfl
  have eH := hexS_length s.data.toList
  have eF := fiveE_len s.data.toList
  have hbd : (min ((s.size : Nat) : Int) 1048576).toNat = s.size := bound_min hs
  have hnn : ¬ ((s.size : Nat) : Int) < 0 := by omega
  have dH : hexD s.size [] none H.data.toList = (0, s.data.toList) := by
    rw [lH, hexD_hex _ _ _ _ (by simp), List.nil_append]
    exact hexD_end _
  have dF : fiveD s.size [] [] F.data.toList = (0, s.data.toList) := by
    rw [lF]
    refine (fiveE_back _ [] _ _ [] (Nat.le_refl _) (by simp)).trans ?_
    rw [if_neg (by simp), List.nil_append]
  refine ⟨H, F, fun i k => ⟨hH, hF, by omega, by omega, by omega, by omega, ?_, ?_, ?_⟩⟩
  · intro hi
    unfold unhexF
    rw [if_neg hnn, hbd, toList_append, toList_append, (ext_many rfl i).1, (ext_many rfl i).2, hW, List.append_assoc, List.singleton_append, hexD_blank _ hb, List.take_append_drop, dH]
  · intro hk
    unfold unfiveF
    have hno : (126 : UInt8) ∉ F.data.toList.take k := by
      rw [lF, List.take_append_of_le_length (by omega)]
      exact fun h => fiveE_no _ (List.mem_of_mem_take h)
    rw [if_neg hnn, hbd, toList_append, toList_append, (ext_many rfl k).1, (ext_many rfl k).2, hW, List.append_assoc, List.singleton_append, fiveD_blank _ hb _ _ _ _ hno, List.take_append_drop, dF]
  · intro X hX
    unfold unhexF
    rw [if_neg hnn, hbd, hX, ← hexD_like _ (lowK_like _ _ _) [] none none ⟨Iff.rfl, rfl⟩, dH]

set_option maxRecDepth 100000 in
set_option maxHeartbeats 16000000 in
theorem ascWhite_in (s Wt H F : ByteArray) (n m q i k : Nat) (w : World) (hn : s.size = n) (hs : n ≤ 3000) (hq : q ≤ 5) (hcut : (ByteArray.mk #[0, 9, 10, 12, 13, 32]).extract q (q + 1) = Wt) (hWs : Wt.size = 1) (hm : (m : Int) ≤ 9223372036854775807)
    (hi : m % H.size = i) (hk : m % (F.size - 1) = k) (hA : WhiteAs s Wt H F n i k) :
    Calls Try.prog 5 #[.string s, .int .i64 (m : Int), .int .i64 (q : Int)] w fun e w' => e = .returned (.bool true) ∧ Below w.heap.size w w' := by
  have HB0 := Lib.hid (Below.refl w.heap.size w)
  obtain ⟨hH, hF, zH, zF, oH, oF, a1, a2, a3⟩ := hA
  have hiH : i < H.size := by rw [← hi]; exact Nat.mod_lt _ (by omega)
  have hkF : k < F.size - 1 := by rw [← hk]; exact Nat.mod_lt _ (by omega)
  have CH := Lib.hid (fun W : World => hH ▸ aschex_any s W (by omega))
  have CF := Lib.hid (fun W : World => hF ▸ five_any s W (by omega))
  obtain ⟨h1, hh1⟩ : ∃ x, H.extract 0 i = x := ⟨_, rfl⟩
  obtain ⟨h2, hh2⟩ : ∃ x, H.extract i H.size = x := ⟨_, rfl⟩
  obtain ⟨g1, hg1⟩ : ∃ x, F.extract 0 k = x := ⟨_, rfl⟩
  obtain ⟨g2, hg2⟩ : ∃ x, F.extract k F.size = x := ⟨_, rfl⟩
  rw [hh1, hh2] at a1
  rw [hg1, hg2] at a2
  have z1 : h1.size ≤ 6001 := by rw [← hh1, ByteArray.size_extract]; omega
  have z2 : h2.size ≤ 6001 := by rw [← hh2, ByteArray.size_extract]; omega
  have z3 : g1.size ≤ 15002 := by rw [← hg1, ByteArray.size_extract]; omega
  have z4 : g2.size ≤ 15002 := by rw [← hg2, ByteArray.size_extract]; omega
  have A1 := Lib.hid (aunhex_c (h1 ++ Wt ++ h2) s n 0 (by rw [ByteArray.size_append, ByteArray.size_append]; omega) (a1 hiH) (.inl rfl))
  have A2 := Lib.hid (aunfive_c (g1 ++ Wt ++ g2) s n 0 (by rw [ByteArray.size_append, ByteArray.size_append]; omega) (a2 hkF) (.inl rfl))
  have A3 := Lib.hid a3
  have e1 : (m : Int) % (H.size : Int) = (i : Int) := by rw [← hi]; simp
  have e2 : (m : Int) % ((F.size : Int) - 1) = (k : Int) := by rw [← hk, show (F.size : Int) - 1 = ((F.size - 1 : Nat) : Int) by omega]; simp
  have u1 : ¬ (H.size : Int) = 0 := by omega
  have u2 : ¬ (F.size : Int) - 1 = 0 := by omega
  have u3 : (0 : Int) < (H.size : Int) := by omega
  have u4 : (0 : Int) < (F.size : Int) - 1 := by omega
  have j1 : (0 : Int) ≤ (i : Int) := by omega
  have j2 : (i : Int) ≤ (H.size : Int) := by omega
  have j3 : (0 : Int) ≤ (k : Int) := by omega
  have j4 : (k : Int) ≤ (F.size : Int) := by omega
  have v1 : ¬ 9223372036854775807 < h1.size + 1 := by omega
  have v2 : ¬ 9223372036854775807 < h1.size + 1 + h2.size := by omega
  have v3 : ¬ 9223372036854775807 < g1.size + 1 := by omega
  have v4 : ¬ 9223372036854775807 < g1.size + 1 + g2.size := by omega
  have f1 : ¬ (3000 : Int) < (n : Int) := by omega
  have f2 : ¬ (m : Int) < 0 := by omega
  have f3 : ¬ (q : Int) < 0 := by omega
  have f4 : ¬ (5 : Int) < (q : Int) := by omega
  have hcv := run_bytes_of_string (P := Try.prog) (w := w)
  clear hcv hH hF a1 a2 a3 hi hk
  go_enter Try.func5, Try.ntmps5
  go_wp2_with fail
  refine (ascLives_any _).mono ?_
  rintro e w1 ⟨rfl, hb⟩
  have HB1 := Lib.hid (HB0.out.trans (hb.mono HB0.out.size))
  clear hb
  go_wp2_with fail
  refine (CH.out _).mono ?_
  rintro e w2 ⟨rfl, hb⟩
  have HB2 := Lib.hid (HB1.out.trans (hb.mono HB1.out.size))
  clear hb
  go_wp2_with fail
  refine (CF.out _).mono ?_
  rintro e w3 ⟨rfl, hb⟩
  have HB3 := Lib.hid (HB2.out.trans (hb.mono HB2.out.size))
  clear hb
  go_wp2_with fail
  go_quiet (fail)
  go_wp2_with fail
  go_region_held3 (fun _ => True) (first | exact trivial) ((go_at_call 8; refine (A1.out _).mono ?_; rintro e w4 ⟨rfl, hb⟩))
  have HB4 := Lib.hid (HB3.out.trans ((below_of_drew hb).mono HB3.out.size))
  clear hb
  go_wp2_with fail
  go_region_held3 (fun _ => True) (first | exact trivial) ((go_at_call 10; refine (A2.out _).mono ?_; rintro e w5 ⟨rfl, hb⟩))
  have HB5 := Lib.hid (HB4.out.trans ((below_of_drew (n := 1) hb).mono HB4.out.size))
  clear hb
  have hcv := run_bytes_of_string (P := Try.prog) w5 9 29 5 H Try.underlying9 Try.underlying29 Try.underlying5
  obtain ⟨cap, hcap⟩ : ∃ cap, grownCap w5 H.size 0 5 = cap := ⟨_, rfl⟩
  rw [hcap] at hcv
  go_wp2_with fail
  obtain ⟨W6, hW6⟩ : ∃ W, (w5.alloc (.cells (bytesRow H cap) 5 ((bytesRow H cap).size, (bytesRow H cap).size + 1))).drew = W := ⟨_, rfl⟩
  rw [hW6]
  obtain ⟨Zs, hZs⟩ := bytesRow_list H cap
  obtain ⟨NN, hNN⟩ : ∃ NN, (bytesRow H cap).size = NN := ⟨_, rfl⟩
  have hX : BlkF W6 w5.heap.size 5 (cellsOf (lowK H.data.toList i i ++ Zs)).toArray NN := by
    rw [lowK_start, ← hZs, ← hW6, ← hNN]
    exact heap_alloc_new w5 _
  have hBW : Below w.heap.size w W6 := by rw [← hW6]; exact below_drewN (HB5.out.alloc HB5.out.size _) 1
  obtain ⟨K, hK⟩ : ∃ K, w5.heap.size = K := ⟨_, rfl⟩
  have hKw : w.heap.size ≤ K := by rw [← hK]; exact HB5.out.size
  have hNH : H.size ≤ NN := by
    rw [← hNN, hZs]
    simp [cellsOf]
  rw [hK] at hX ⊢
  have HX0 := Lib.hid hX
  have HBW := Lib.hid hBW
  have HKw := Lib.hid hKw
  have hHl : H.data.toList.length = H.size := len_of H
  have HHl := Lib.hid hHl
  clear hX hBW hKw hW6 hZs hNN hcv hcap hK hHl
  go_loopw [17] (fun j wr => ∃ p : Nat, i ≤ p ∧ p ≤ H.size ∧ j = .int .i64 (p : Int) ∧ Hid (BlkF wr K 5 (cellsOf (lowK H.data.toList i p ++ Zs)).toArray NN) ∧ Hid (Below w.heap.size w wr)) (fun j _ => H.size - (intOf j).toNat)
  case atStart => exact ⟨i, Nat.le_refl _, by omega, rfl, HX0, HBW⟩
  case round =>
    clear HX0 HBW
    obtain ⟨p, hip, hpH, rfl, HX1, HBr⟩ := hrel
    by_cases hlt : p < H.size
    · have i0 : (0 : Int) ≤ (p : Int) := by omega
      have i1 : (p : Int) < (H.size : Int) := by omega
      have hpl : p < H.data.toList.length := by rw [HHl.out]; exact hlt
      obtain ⟨c, hc⟩ : ∃ c, H.data.toList[p] = c := ⟨_, rfl⟩
      have x : wr.cell? ⟨K, p, none⟩ = some (.int .u8 (c.toNat : Int)) := by
        rw [HX1.out.cell]
        unfold cellsOf
        rw [List.getElem?_toArray, List.getElem?_map, List.getElem?_append_left (by rw [lowK_len]; exact hpl), List.getElem?_eq_getElem (by rw [lowK_len]; exact hpl), lowK_at _ _ _ _ hpl, if_neg (by omega), hc]
        rfl
      have f := HX1.out.frozen (i := p) (by omega)
      have hc255 : (c.toNat : Int) ≤ 255 := by have := c.toNat_lt; omega
      have hstay : low1 c = c → Hid (BlkF wr K 5 (cellsOf (lowK H.data.toList i (p + 1) ++ Zs)).toArray NN) := fun h => by
        have := HX1.out
        rw [lowK_same _ i p hip hpl (by rw [hc]; exact h)] at this
        exact Lib.hid this
      by_cases h65 : (65 : Int) ≤ (c.toNat : Int)
      · by_cases h70 : (c.toNat : Int) ≤ 70
        · have hlow : low1 c = c + 32 := by unfold low1; rw [if_pos ⟨by omega, by omega⟩]
          have hadd : ((c + 32 : UInt8).toNat : Int) = (c.toNat : Int) + 32 := by rw [UInt8.toNat_add]; show (((c.toNat + 32) % 256 : Nat) : Int) = _; omega
          have hX2 := HX1.out.set_ p (.int .u8 ((c.toNat : Int) + 32))
          rw [← hadd, cells_set, List.set_append_left _ _ (by rw [lowK_len]; exact hpl)] at hX2
          have hnext := lowK_next H.data.toList i p hip hpl
          rw [hc, hlow] at hnext
          rw [hnext, hadd] at hX2
          have HX2 := Lib.hid hX2
          have HB2 := Lib.hid (set_low HBr.out HKw.out p (.int .u8 ((c.toNat : Int) + 32)))
          clear hX2 hnext hadd hlow hstay hc
          go_wp2_with fail
          go_roundw
          case rel => exact ⟨p + 1, by omega, by omega, by go_num, HX2, HB2⟩
          case measure => simp [intOf]; omega
        · have HX2 := hstay (by unfold low1; rw [if_neg (by omega)])
          clear hstay hc
          go_wp2_with fail
          go_roundw
          case rel => exact ⟨p + 1, by omega, by omega, by go_num, HX2, HBr⟩
          case measure => simp [intOf]; omega
      · have HX2 := hstay (by unfold low1; rw [if_neg (by omega)])
        clear hstay hc
        go_wp2_with fail
        go_roundw
        case rel => exact ⟨p + 1, by omega, by omega, by go_num, HX2, HBr⟩
        case measure => simp [intOf]; omega
    · obtain rfl : p = H.size := by omega
      obtain ⟨X, hX⟩ : ∃ X : ByteArray, (⟨(lowK H.data.toList i H.size).toArray⟩ : ByteArray) = X := ⟨_, rfl⟩
      have hXl : X.data.toList = lowK H.data.toList i H.size := by rw [← hX]
      have hXs : X.size = H.size := by rw [len_size hXl, lowK_len, HHl.out]
      have hconv : (convert 29 9 (.slice (some ⟨K, 0, none⟩) H.size cap)).run Try.prog wr = .ok (.string X) wr := by
        have := run_convert_bytes_back wr 29 9 5 ⟨K, 0, none⟩ cap (lowK H.data.toList i H.size) Try.underlying29 Try.underlying5 Try.underlying9 fun j hj => ?_
        · rw [lowK_len, HHl.out, hX] at this
          exact this
        · have := (World.news_of_block HX1.out) j (.int .u8 ((lowK H.data.toList i H.size)[j].toNat : Int)) (by
            show (cellsOf (lowK H.data.toList i H.size ++ Zs))[j]? = _
            unfold cellsOf
            rw [List.getElem?_map, List.getElem?_append_left hj, List.getElem?_eq_getElem hj]
            rfl)
          exact this
      have HA := Lib.hid (aunhex_c X s n 0 (by omega) (A3.out X hXl) (.inl rfl))
      clear hX hXl
      go_wp2_with fail
      refine (HA.out _).mono ?_
      rintro e w7 ⟨rfl, hb⟩
      have HB7 := Lib.hid (HBr.out.trans (hb.mono HBr.out.size))
      clear hb
      go_wp2_with fail
      go_ret
      exact ⟨rfl, HB7.out⟩

theorem white_cut (q : Nat) (hq : q ≤ 5) : ∃ b, ((ByteArray.mk #[0, 9, 10, 12, 13, 32]).extract q (q + 1)).data.toList = [b] ∧ whiteS b = true ∧ ((ByteArray.mk #[0, 9, 10, 12, 13, 32]).extract q (q + 1)).size = 1 := by
  have hc : q = 0 ∨ q = 1 ∨ q = 2 ∨ q = 3 ∨ q = 4 ∨ q = 5 := by omega
  rcases hc with rfl | rfl | rfl | rfl | rfl | rfl <;> exact ⟨_, rfl, by decide, rfl⟩
set_option maxRecDepth 100000 in
set_option maxHeartbeats 16000000 in
theorem ascWhite_any (s : ByteArray) (m q : Int) (w : World) (hm : (Lit.int .i64 m).wf = true) :
    Calls Try.prog 5 #[.string s, .int .i64 m, .int .i64 q] w fun e w' => e = .returned (.bool true) ∧ Below w.heap.size w w' := by
  by_cases hb : s.size ≤ 3000 ∧ 0 ≤ m ∧ 0 ≤ q ∧ q ≤ 5
  · obtain ⟨h1, h2, h3, h4⟩ := hb
    have hm2 : m ≤ 9223372036854775807 := by
      simp [Lit.wf, IntKind.min, IntKind.max, IntKind.signed, IntKind.bits] at hm
      omega
    obtain ⟨m', rfl⟩ : ∃ k : Nat, m = (k : Int) := ⟨m.toNat, by omega⟩
    obtain ⟨q', rfl⟩ : ∃ k : Nat, q = (k : Int) := ⟨q.toNat, by omega⟩
    obtain ⟨b, hW, hwb, hW1⟩ := white_cut q' (by omega)
    obtain ⟨H, F, hA⟩ := white_as s _ b h1 hW hwb
    exact ascWhite_in s _ H F s.size m' q' _ _ w rfl h1 (by omega) rfl hW1 hm2 rfl rfl (hA _ _)
  · have hp : (decide ((3000 : Int) < (s.size : Int)) || decide (m < 0) || decide (q < 0) || decide ((5 : Int) < q)) = true := by
      simp only [Bool.or_eq_true, decide_eq_true_eq]
      omega
    clear hb hm
    go_enter Try.func5, Try.ntmps5
    go_wp2_with fail
    refine (ascLives_any _).mono ?_
    rintro e w1 ⟨rfl, hb⟩
    go_wp2_with fail
    all_goals (go_ret; exact ⟨rfl, hb⟩)


/-! ### The row. -/
theorem asciiWhite_laidOut : laidOutB Try.prog = true := by kernel_rfl
theorem asciiWhite_own : ownKnob Try.prog.godebug = none := by kernel_rfl
theorem asciiWhite_types (t : TypeId) (ht : t ∈ Try.f5.params.toList) : Try.prog.readableRec t = true ∧ t < Try.prog.types.size := by
  rw [Try.params5] at ht
  simp only [List.mem_cons, List.not_mem_nil, or_false] at ht
  rcases ht with rfl | rfl | rfl
  · exact ⟨by kernel_rfl, of_decide_eq_true (by kernel_rfl)⟩
  · exact ⟨by kernel_rfl, of_decide_eq_true (by kernel_rfl)⟩
  · exact ⟨by kernel_rfl, of_decide_eq_true (by kernel_rfl)⟩
theorem asciiWhite_fn {H : Type} (ds' : List (DataW H)) (h : ds'.length = Try.f5.params.size) : Rows.asciiWhiteSpec.fn H ds' = { results := [.lit (.bool true)], args := ds' } := by
  have h' : ds'.length = 3 := h.trans (by kernel_rfl)
  match ds', h' with
  | [_, _, _], _ => rfl

set_option maxRecDepth 100000 in
theorem asciiWhite_lifted (os : Os) (started : os.Started) (H : Type) (enc : TypeId × Value → H) :
    ReturnsInHanded {} Try.checked os 5 .any (Rows.asciiWhiteSpec.pre6 enc Try.prog Try.f5 Rows.asciiWhiteRow.domain false) (Rows.asciiWhiteSpec.post enc Try.prog Try.f5 false true false false) := by
  refine returnsInHanded_of_change_shaped (C := Try.checked) asciiWhite_own started (by kernel_rfl) Try.func5
    (ChangeSpec.witness6 (enc := enc) (C := Try.checked) false ⟨#[], #[.string ⟨#[]⟩, .int .i64 0, .int .i64 0], []⟩ 8 (by kernel_rfl) (by kernel_rfl) (by kernel_rfl) (by kernel_rfl)) ?_
  intro W base args ds gs before hval0 hW hcnd0 _ hsh _
  have hval : ∀ (j : Nat) t v, Try.f5.params[j]? = some t → args[j]? = some v → Value.okWide Try.prog W .any base t v := hval0
  have hW' := hW
  obtain ⟨p, q, hA0, hV, rfl, hfz, hnd⟩ := hW
  have hA : DataW.TrodAll enc Try.prog W 0 (fun _ => true) true Try.f5.params.toList args.toList ds p := hA0
  rw [Try.params5] at hA hval
  obtain ⟨v0, vs0, d0, ds0, p0, q0, hargs, rfl, rfl, h0, r0⟩ := trodAll_cons hA
  obtain ⟨v1, vs1, d1, ds1, p1, q1, rfl, rfl, rfl, h1, r1⟩ := trodAll_cons r0
  obtain ⟨v2, vs2, d2, ds2, p2, q2, rfl, rfl, rfl, h2, r2⟩ := trodAll_cons r1
  obtain ⟨rfl, rfl, rfl⟩ := trodAll_nil r2
  obtain rfl : args = #[v0, v1, v2] := by cases args; simp_all
  obtain ⟨rfl, rfl⟩ := trodVars_none hV
  obtain ⟨a0, rfl, rfl, rfl, w0⟩ := Go.ChangeMaps.open_string Try.underlying9 (hval 0 9 v0 rfl rfl) h0
  obtain ⟨a1, rfl, rfl, rfl, w1⟩ := open_int Try.underlying3 (hval 1 3 v1 rfl rfl) h1
  obtain ⟨a2, rfl, rfl, rfl, w2⟩ := open_int Try.underlying3 (hval 2 3 v2 rfl rfl) h2
  clear hA0 hval0
  refine (ascWhite_any a0 a1 a2 W w1).mono fun e W' ⟨he, hb⟩ => ?_
  subst he
  exact ⟨_, rfl, post_keep asciiWhite_laidOut (fun t ht => asciiWhite_types t ht) rfl hW' (fun ds' hds => asciiWhite_fn ds' hds) (by kernel_rfl) Try.underlying4 hb⟩

theorem asciiWhite_holds : Rows.AsciiWhiteSaid :=
  OpenClaim.holds_of_wide 5 Try.f5 rfl rfl rfl rfl rfl rfl rfl ⟨rfl, rfl, rfl, rfl, rfl⟩ rfl rfl rfl rfl rfl (by kernel_rfl) Try.func5 (by kernel_rfl)
    (of_decide_eq_true (by kernel_rfl)) (by unfold Func.isWrapper; first | (rw [if_pos (by decide +kernel)]; kernel_rfl) | (rw [if_neg (by decide +kernel)]; exact ⟨rfl, rfl⟩))
    (fun os started H enc _ => asciiWhite_lifted os started H enc)
end Go.Proofs.Ytgfohfgallojkaa
