/-
  ascii's last: the bytes of a group of which some digits are there.
-/
import Derived.Test.YthioafndepkhoaaAscE
namespace Go.Proofs.Ythioafndepkhoaa
open Go.RowKit Oct Asc

theorem news_pre {w : World} {k : Nat} {cs : Array Value} {t : TypeId} {x l : List UInt8} {n : Nat} (h : Blk w k t cs) (hx : cs.toList = cellsOf l) (hp : x = l.take n) :
    ∀ W : World, (∀ j, j < w.heap.size → W.heap[j]? = w.heap[j]?) → ∀ (j : Nat) u, (cellsOf x)[j]? = some u → W.cell? ((⟨k, 0, none⟩ : Addr).add j) = some u := by
  intro W hW j u hu
  refine news_blk h hx W hW j u ?_
  subst hp
  unfold cellsOf at hu ⊢
  rw [List.map_take, List.getElem?_take] at hu
  split at hu
  · exact hu
  · cases hu
/-- Digits, filled up. -/
def fillK (a : List UInt8) (n k : Nat) : List UInt8 := a.take n ++ List.replicate k 84 ++ a.drop (n + k)
theorem fillK_zero (a : List UInt8) (n : Nat) : fillK a n 0 = a := by unfold fillK; simp
theorem fillK_len {a : List UInt8} {n k : Nat} (ha : a.length = 5) (h : n + k ≤ 5) : (fillK a n k).length = 5 := by
  unfold fillK
  simp only [List.length_append, List.length_take, List.length_replicate, List.length_drop]
  omega
theorem fillK_set {a : List UInt8} {n k : Nat} (ha : a.length = 5) (h : n + k < 5) : (fillK a n k).set (n + k) 84 = fillK a n (k + 1) := by
  unfold fillK
  have h1 : (a.take n ++ List.replicate k 84).length = n + k := by simp; omega
  rw [List.drop_eq_getElem_cons (by omega), List.set_append_right _ _ (by omega), h1, Nat.sub_self, List.set_cons_zero, List.replicate_succ', ← Nat.add_assoc]
  simp
theorem fillK_val {a : List UInt8} {n : Nat} (ha : a.length = 5) (h : n ≤ 5) : v5 (fillK a n (5 - n)) = val5 (a.take n) := by
  unfold fillK val5 v5
  have h1 : (a.take n).length = n := by rw [List.length_take]; omega
  rw [h1, List.drop_eq_nil_of_le (by omega), List.append_nil]
theorem cells_set (l : List UInt8) (i : Nat) (b : UInt8) : (cellsOf l).toArray.setIfInBounds i (.int .u8 (b.toNat : Int)) = (cellsOf (l.set i b)).toArray := by
  unfold cellsOf
  rw [List.map_set]
  simp

theorem Dec.far {B : Nat} {w : World} {g k : Nat} {r : Option Nat} {rest o : List UInt8} {m : Nat} (h : Dec B w g r rest o m) (hk : k ≠ g) (hr : r ≠ some k) (i : Nat) (u : Value) : Dec B (w.setCell ⟨k, i, none⟩ u) g r rest o m := by
  obtain ⟨R, v, h1, h2, h3, h4, rfl, h6, h7⟩ := h
  exact ⟨R, v, h1, h2, h3.far (p := ⟨k, i, none⟩) (fun e => hk e.symm) u, ownsRow_setCell_other h4 hr u, rfl, h6, h7⟩
theorem Dec.lt {B : Nat} {w : World} {g : Nat} {r : Option Nat} {rest o : List UInt8} {m : Nat} (h : Dec B w g r rest o m) : g < w.heap.size ∧ ∀ k, r = some k → k < w.heap.size := by
  obtain ⟨R, v, h1, h2, h3, h4, rfl, h6, h7⟩ := h
  exact ⟨h3.lt, fun k hk => (h4.lt k hk).2⟩
theorem below_two {g : Nat} {w w' : World} {r : Option Nat} (h : Below w.heap.size w w') : Two w w' g r := ⟨h.os, h.tape, h.output, h.size, fun k hk _ _ => h.block k hk⟩
theorem Dec.below {B : Nat} {w w' : World} {g : Nat} {r : Option Nat} {rest o : List UInt8} {m : Nat} (h : Dec B w g r rest o m) (hb : Below w.heap.size w w') : Dec B w' g r rest o m := by
  obtain ⟨R, v, h1, h2, h3, h4, h5, h6, h7⟩ := h
  refine ⟨R, v, h1, h2, h3.below hb h3.lt, h4.kept (row := none) ⟨hb.os, hb.tape, hb.output, hb.size, fun i hi _ => hb.block i hi⟩ ?_, h5, h6, h7⟩
  rcases h4.2 with ⟨e, _⟩ | ⟨k, cap, cur, e, _⟩
  · exact .inl (by rw [e]; rfl)
  · exact .inr (by rw [e]; simp [Value.ownBlock])
/-- The loop that fills the digits up. -/
def FillTo (B : Nat) (w : World) (g : Nat) (r : Option Nat) (rest o : List UInt8) (m : Nat) (a : List UInt8) (n k : Nat) (wr : World) : Prop :=
  Blk wr w.heap.size 50 (cellsOf (fillK a n k)).toArray ∧ Dec B wr g r rest o m ∧ Two w wr g r ∧ wr.heap.size = w.heap.size + 1
theorem FillTo.next {B : Nat} {w : World} {g : Nat} {r : Option Nat} {rest o : List UInt8} {m : Nat} {a : List UInt8} {n k : Nat} {wr : World} (h : FillTo B w g r rest o m a n k wr) (ha : a.length = 5) (hnk : n + k < 5) (hg : g < w.heap.size) (hr : ∀ k, r = some k → k < w.heap.size) :
    FillTo B w g r rest o m a n (k + 1) (wr.setCell ⟨w.heap.size, n + k, none⟩ (.int .u8 84)) := by
  obtain ⟨h1, h2, h3, h4⟩ := h
  refine ⟨?_, h2.far (by omega) (fun e => by have := hr _ e; omega) _ _, h3.row (.inr (Nat.le_refl _)) _ _, by simp [World.setCell, h4]⟩
  have := h1.set_ (n + k) (.int .u8 84)
  rw [show (84 : Int) = ((84 : UInt8).toNat : Int) from rfl, cells_set, fillK_set ha hnk] at this
  exact this

set_option maxRecDepth 100000 in
set_option maxHeartbeats 4000000 in
theorem last_in (B g : Nat) (r : Option Nat) (rest o : List UInt8) (m : Nat) (a : List UInt8) (n : Nat) (w : World) (hB : B ≤ w.heap.size) (hm : m ≤ 1048576) (ho : o.length ≤ m) (ha : a.length = 5) (hn : n ≤ 4) (F : Int × List UInt8) (hF : F = lastD m o (a.take n)) (h : Dec B w g r rest o m) :
    Calls Try.prog 41 #[.pointer (some ⟨g, 0, none⟩), arr5 a, .int .i64 (n : Int)] w (DecEnd B w g r m F) := by
  have hal : (a.take n).length = n := by rw [List.length_take]; omega
  obtain ⟨d0, d1, d2, d3, d4, had⟩ : ∃ d0 d1 d2 d3 d4, a = [d0, d1, d2, d3, d4] := by
    match a, ha with
    | [a, b, c, d, e], _ => exact ⟨a, b, c, d, e, rfl⟩
  have harr : arr5 a = .agg #[.int .u8 (d0.toNat : Int), .int .u8 (d1.toNat : Int), .int .u8 (d2.toNat : Int), .int .u8 (d3.toNat : Int), .int .u8 (d4.toNat : Int)] := by rw [had]; rfl
  obtain ⟨W, hW⟩ : ∃ W, w.alloc (.cells #[.int .u8 (d0.toNat : Int), .int .u8 (d1.toNat : Int), .int .u8 (d2.toNat : Int), .int .u8 (d3.toNat : Int), .int .u8 (d4.toNat : Int)] 50) = W := ⟨_, rfl⟩
  have hX : Blk W w.heap.size 50 (cellsOf (fillK a n 0)).toArray := by
    rw [← hW, fillK_zero, had]
    exact Blk.new w _ _
  have hD : Dec B W g r rest o m := by rw [← hW]; exact h.alloc _
  have hT : Two w W g r := by rw [← hW]; exact (Two.refl w g r).alloc _
  have hWs : W.heap.size = w.heap.size + 1 := by rw [← hW]; simp
  rw [harr]
  have HX := Lib.hid hX
  have HD := Lib.hid hD
  have HT := Lib.hid hT
  have HWs := Lib.hid hWs
  have HA := Lib.hid (And.intro ha had)
  obtain ⟨hg0, hr0⟩ := Dec.lt h
  clear hX hD hT hWs had h harr
  rcases Nat.eq_zero_or_pos n with hz | hpos
  · subst hz
    have HF := Lib.hid (show F = (0, o) by rw [hF]; unfold lastD; rw [if_pos (by simp)])
    clear hF
    go_enter Try.func41, Try.ntmps41
    go_wp2_with fail
    go_end0
    exact end_ok (.inl rfl) HT.out (Put.same HD.out) HF.out
  · have hn0 : ¬ (n : Int) = 0 := by omega
    have hne : a.take n ≠ [] := by intro e; rw [e] at hal; simp at hal; omega
    by_cases h1 : n = 1
    · have h1' : ((n : Int) == 1) = true := by rw [h1]; rfl
      have HF := Lib.hid (show F = (3, []) by rw [hF]; unfold lastD; rw [if_neg hne, if_pos (.inl (by omega))])
      clear hF hne
      go_enter Try.func41, Try.ntmps41
      go_wp2_with fail
      refine (up_any _ _).mono ?_
      rintro e w' ⟨rfl, rfl⟩
      refine ⟨rfl, ?_⟩
      exact end_no (.inl rfl) HT.out (Two.refl _ _ _) HF.out (by decide)
    · have h1' : ¬ (n : Int) = 1 := by omega
      have hs0 : (0 : Int) ≤ (n : Int) := by omega
      have hs1 : (n : Int) ≤ 5 := by omega
      have hwr : IntKind.i64.wrap (5 - (n : Int)) = 5 - (n : Int) := IntWalk.i64_in _ (by omega)
      obtain ⟨q, hq⟩ : ∃ q, 5 - n = q := ⟨_, rfl⟩
      obtain ⟨hgl, hrl⟩ := Dec.lt HD.out
      have HL := Lib.hid (show FillTo B w g r rest o m a n 0 W from ⟨HX.out, HD.out, HT.out, HWs.out⟩)
      have hq1 : (n : Int) + (q : Int) = 5 := by omega
      have HGl := Lib.hid (And.intro hg0 hr0)
      clear hgl hrl hg0 hr0
      go_enter Try.func41, Try.ntmps41
      go_wp2_with fail
      go_loopw [16] (fun i wr => ∃ k : Nat, k ≤ q ∧ i = .int .i64 (k : Int) ∧ FillTo B w g r rest o m a n k wr) (fun i _ => q - (intOf i).toNat)
      case atStart => exact ⟨0, by omega, rfl, HL.out⟩
      case round =>
        clear HL HX HD HT
        obtain ⟨k, hk, rfl, hL⟩ := hrel
        by_cases hlt : k < q
        · have i0 : (0 : Int) ≤ (k : Int) := by omega
          have i1 : (k : Int) < (q : Int) := by omega
          have i2 : (n : Int) + (k : Int) < 5 := by omega
          have i3 : (0 : Int) ≤ (n : Int) + (k : Int) := by omega
          have hfl := fillK_len (n := n) (k := k) HA.out.1 (by omega)
          obtain ⟨y, x⟩ : ∃ y : Int, wr.cell? ⟨w.heap.size, n + k, none⟩ = some (.int .u8 y) := by
            refine ⟨(((fillK a n k)[n + k]'(by omega)).toNat : Int), ?_⟩
            rw [hL.1.cell]
            unfold cellsOf
            rw [List.getElem?_toArray, List.getElem?_map, List.getElem?_eq_getElem (by omega)]
            rfl
          have f := hL.1.frozen (n + k)
          have HN := Lib.hid (hL.next HA.out.1 (by omega) HGl.out.1 HGl.out.2)
          have e1 : ((n : Int) + (k : Int)).toNat = n + k := by omega
          clear hL hfl
          go_wp2_with fail
          go_roundw
          case rel => exact ⟨k + 1, by omega, by go_num, HN.out⟩
          case measure => simp [intOf]; omega
        · obtain rfl : k = q := by omega
          have hlf : (fillK a n k).length = 5 := fillK_len HA.out.1 (by omega)
          have hvf : v5 (fillK a n k) = val5 (a.take n) := by rw [← hq]; exact fillK_val HA.out.1 (by omega)
          obtain ⟨L, hLq⟩ : ∃ L, fillK a n k = L := ⟨_, rfl⟩
          obtain ⟨hX, hD, hT, hS⟩ := hL
          rw [hLq] at hlf hvf hX
          obtain ⟨y0, y1, y2, y3, y4, hy⟩ : ∃ y0 y1 y2 y3 y4, L = [y0, y1, y2, y3, y4] := by
            match L, hlf with
            | [a, b, c, d, e], _ => exact ⟨a, b, c, d, e, rfl⟩
          have hX2 : Blk wr w.heap.size 50 #[.int .u8 (y0.toNat : Int), .int .u8 (y1.toNat : Int), .int .u8 (y2.toNat : Int), .int .u8 (y3.toNat : Int), .int .u8 (y4.toNat : Int)] := by rw [hy] at hX; exact hX
          have harr : arr5 L = .agg #[.int .u8 (y0.toNat : Int), .int .u8 (y1.toNat : Int), .int .u8 (y2.toNat : Int), .int .u8 (y3.toNat : Int), .int .u8 (y4.toNat : Int)] := by rw [hy]; rfl
          have c0 : wr.cell? ⟨w.heap.size, 0, none⟩ = some (.int .u8 (y0.toNat : Int)) := hX2.cell 0
          have c1 : wr.cell? ⟨w.heap.size, 1, none⟩ = some (.int .u8 (y1.toNat : Int)) := hX2.cell 1
          have c2 : wr.cell? ⟨w.heap.size, 2, none⟩ = some (.int .u8 (y2.toNat : Int)) := hX2.cell 2
          have c3 : wr.cell? ⟨w.heap.size, 3, none⟩ = some (.int .u8 (y3.toNat : Int)) := hX2.cell 3
          have c4 : wr.cell? ⟨w.heap.size, 4, none⟩ = some (.int .u8 (y4.toNat : Int)) := hX2.cell 4
          have hlast : F = if 4294967295 < val5 (a.take n) then (3, []) else if m < o.length + (n - 1) then (5, []) else (0, o ++ (bytes4 (val5 (a.take n))).take (n - 1)) := by
            rw [hF]
            unfold lastD
            rw [if_neg hne, hal]
            by_cases hv : 4294967295 < val5 (a.take n)
            · rw [if_pos (.inr hv), if_pos hv]
            · rw [if_neg (by omega), if_neg hv]
          obtain ⟨V, hV⟩ : ∃ V, val5 (a.take n) = V := ⟨_, rfl⟩
          rw [hV] at hlast hvf
          have HD := Lib.hid hD
          have HT := Lib.hid hT
          have HS := Lib.hid hS
          have HAr := Lib.hid harr
          have HLv := Lib.hid (And.intro hlf hvf)
          have hkk : ¬ (k : Int) < (k : Int) := by omega
          clear hX hX2 hD hT hS hF hV hLq hlf hvf hy hlt harr hne hal hW
          by_cases hv : 4294967295 < V
          · have HF := Lib.hid (hlast.trans (if_pos hv))
            clear hlast
            go_wp2_with fail
            rw [← HAr.out]
            refine (bytesOf_no L V _ HLv.out.1 HLv.out.2 hv).mono ?_
            rintro e w2 ⟨rfl, hb⟩
            refine ⟨rfl, ?_⟩
            exact end_no (.inl rfl) HT.out (below_two hb) HF.out (by decide)
          · have hF2 := hlast.trans (if_neg hv)
            clear hlast
            obtain ⟨b0, b1, b2, b3, hb4⟩ : ∃ b0 b1 b2 b3, bytes4 V = [b0, b1, b2, b3] := ⟨_, _, _, _, rfl⟩
            have hb5 : arr5 (bytes4 V) = .agg #[.int .u8 (b0.toNat : Int), .int .u8 (b1.toNat : Int), .int .u8 (b2.toNat : Int), .int .u8 (b3.toNat : Int)] := by rw [hb4]; rfl
            rw [hb4] at hF2
            have HB5 := Lib.hid hb5
            have HF := Lib.hid hF2
            have hwn : IntKind.i64.wrap ((n : Int) - 1) = (n : Int) - 1 := IntWalk.i64_in _ (by omega)
            obtain ⟨p, hp⟩ : ∃ p, n = p + 1 := ⟨n - 1, by omega⟩
            have hp1 : (n : Int) - 1 = (p : Int) := by omega
            have hp0 : (0 : Int) ≤ (p : Int) := by omega
            have hp4 : (p : Int) ≤ 4 := by omega
            clear hF2 hb4 hb5
            go_wp2_with fail
            rw [← HAr.out]
            refine (bytesOf_in L V _ HLv.out.1 HLv.out.2 (by omega)).mono ?_
            rintro e w2 ⟨rfl, hb⟩
            rw [HB5.out]
            have HD2 := Lib.hid (Dec.below HD.out hb)
            have HT2 := Lib.hid (HT.out.trans (below_two hb) (.inl rfl))
            have HT4 := Lib.hid (below_two (g := g) (r := r) hb)
            clear hb
            go_wp2_with fail
            by_cases hfull : m < o.length + p
            · have HF2 := Lib.hid (HF.out.trans (if_pos (by omega)))
              refine (put_no B g r rest o m _ p 4 _ hm ho (HD2.out.alloc _) hfull).mono ?_
              rintro e w3 ⟨rfl, x, rfl⟩
              refine ⟨rfl, ?_⟩
              exact end_no (.inl rfl) HT.out (((below_two (Below.refl _ _)).trans HT4.out (.inl rfl)).alloc _ |>.drewN x) HF2.out (by decide)
            · have HF2 := Lib.hid (HF.out.trans (if_neg (by omega)))
              have hBs : B ≤ w2.heap.size := by have := HT2.out.size; omega
              refine (put_ok B g r rest o ([b0, b1, b2, b3].take p) m ⟨w2.heap.size, 0, none⟩ p 4 _ (by simp; omega) hm (by omega) (HD2.out.alloc _) (by rw [List.length_take]; simp; omega) (by omega) (news_pre (Blk.new w2 _ _) rfl rfl)).mono ?_
              rintro e w3 ⟨rfl, hp3⟩
              have HP := Lib.hid (Put.then (.inl rfl) (HT2.out.alloc _) hp3)
              clear hp3
              go_wp2_with fail
              go_end0
              exact end_ok (.inl rfl) (Two.refl _ _ _) HP.out (HF2.out.trans (by rw [show n - 1 = p by omega]))
end Go.Proofs.Ythioafndepkhoaa
