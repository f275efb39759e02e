/-
  The walk of a writer of bit's that writes one bit.
-/
import Derived.Test.YtbgechfmbogbpaaBitH
import Derived.Test.YtbgechfmbogbpaaBits
import Derived.StillTailTactics
namespace Go.Proofs.Ytbgechfmbogbpaa
open Go.RowKit Bt

/-- One bit put into a byte that has it zero. -/
theorem bit_or (x b k : Nat) (hk : k < 8) (_hb : b < 2) (hx : x < 256) (h : x ||| b * 2 ^ k = x + b * 2 ^ k) (hlt : x + b * 2 ^ k < 256) :
    bits .or .u8 (x : Int) (wrap64 ((b : Int) * 2 ^ min k 64) % 256) = ((x + b * 2 ^ k : Nat) : Int) := by
  rw [Nat.min_eq_left (by omega)]
  have e : ((b : Nat) : Int) * 2 ^ k = ((b * 2 ^ k : Nat) : Int) := by rw [Int.natCast_mul]; congr 1
  rw [e]
  generalize b * 2 ^ k = y at *
  rw [IntWalk.wrap64_in _ (by omega), show ((y : Nat) : Int) % 256 = (y : Int) by omega, u8_or_nat _ _ hx (by omega), h]

/-- The row's last byte is turned: the writer holds one bit more. -/
theorem wr_bit {T : TypeId} {B : Nat} {w : World} {g k cap : Nat} {l : List UInt8} {p : Nat} {o q : Int} {b : Nat} (hne : k ≠ g) (hB : B ≤ g)
    (h : Blk w g T #[.slice (some ⟨k, 0, none⟩) (grow0 l p).length cap, .int .i64 (p : Int), .int .i64 q]) (hown : w.ownsRow B 5 1 (.slice (some ⟨k, 0, none⟩) (grow0 l p).length cap) (grow0 l p).length (byteCells (grow0 l p)))
    (hlt : lastN (grow0 l p) + b * 2 ^ plc o p < 256) :
    Wr T B (w.setCell ⟨k, (grow0 l p).length - 1, none⟩ (.int .u8 ((lastN (grow0 l p) + b * 2 ^ plc o p : Nat) : Int))) g (some k) (put1 o l p b) p q := by
  refine ⟨.slice (some ⟨k, 0, none⟩) (grow0 l p).length cap, h.far (p := ⟨k, _, none⟩) (fun e => hne e.symm) _, ?_, rfl, fun e => hne (by injection e), hB⟩
  have hs := (hown.stored ((grow0 l p).length - 1) (.int .u8 ((lastN (grow0 l p) + b * 2 ^ plc o p : Nat) : Int))).1
  rw [byteCells_set _ _ _ hlt] at hs
  rw [put1_len]
  exact hs

set_option maxRecDepth 100000 in
set_option maxHeartbeats 1000000 in
theorem wnext_more (B g k cap n : Nat) (l : List UInt8) (p : Nat) (o : Int) (b : Nat) (w : World) (hp : 0 < p) (hp8 : p < 8) (hb : b < 2) (hn : 0 < n) (hln : l.length = n) (hcap : n ≤ cap) (hm : cap ≤ maxLen) (hne : k ≠ g) (hB : B ≤ g)
    (h : Blk w g 77 #[.slice (some ⟨k, 0, none⟩) n cap, .int .i64 (p : Int), .int .i64 o]) (hown : w.ownsRow B 5 1 (.slice (some ⟨k, 0, none⟩) n cap) n (byteCells l))
    (hor : lastN l ||| b * 2 ^ plc o p = lastN l + b * 2 ^ plc o p) (hlt : lastN l + b * 2 ^ plc o p < 256) :
    Calls Try.prog 60 #[.pointer (some ⟨g, 0, none⟩), .int .i64 b] w fun e w' => e = .returned (.tuple #[]) ∧ Wrote 77 B w g (some k) (put1 o l p b) ((p + 1) % 8) o w' := by
  have G : Hid (grow0 l p = l) := Lib.hid (by unfold grow0; rw [if_neg (by omega)])
  have BO := Lib.hid (bit_or (lastN l) b (plc o p) (plc_lt o p) hb (lastN_lt l) hor hlt)
  have HLt := Lib.hid hlt
  have HLn := Lib.hid hln
  have HOwn := Lib.hid hown
  have hx : w.cell? ⟨k, n - 1, none⟩ = some (.int .u8 (lastN l : Int)) := by
    have := hown.cellAt (j := n - 1) (by omega)
    rw [this, byteCells_at l (n - 1) (by omega)]
    unfold lastN
    rw [hln]
  have hf : w.frozen? ⟨k, n - 1, none⟩ = false := hown.frozenAt _
  unfold maxLen at hm
  have c0 : w.cell? ⟨g, 0, none⟩ = some (.slice (some ⟨k, 0, none⟩) n cap) := (h.cell 0).trans rfl
  have c1 : w.cell? ⟨g, 1, none⟩ = some (.int .i64 (p : Int)) := (h.cell 1).trans rfl
  have c2 : w.cell? ⟨g, 2, none⟩ = some (.int .i64 o) := (h.cell 2).trans rfl
  have f1 : w.frozen? ⟨g, 1, none⟩ = false := h.frozen 1
  have hp0 : ((p : Int) == 0) = false := by simp; omega
  have d0 : IntKind.i64.wrap ((n : Int) - 1) = (n : Int) - 1 := IntWalk.i64_in _ (by omega)
  have d1 : (0 : Int) ≤ (n : Int) - 1 := by omega
  have d1' : (1 : Int) ≤ (n : Int) := by omega
  have d2 : (n : Int) - 1 < (n : Int) := by omega
  have d3 : ((n : Int) - 1).toNat = n - 1 := by omega
  have H := Lib.hid h
  clear h hown hor hlt hln
  go_enter Try.func60, Try.ntmps60
  go_wp2_with fail
  go_still_tail 26, (by kernel_rfl)
  still_call (same_q (place_any _ _ _ (by omega)))
  repeat still_step
  refine wpStill_nil ?_
  go_wp2
  go_end0
  refine ⟨rfl, ?_⟩
  rw [BO.out, ← HLn.out, show (((p : Nat) : Int) + 1) % 8 = (((p + 1) % 8 : Nat) : Int) by omega]
  have hw := wr_bit (l := l) (p := p) (o := o) (b := b) hne hB (by rw [G.out, HLn.out]; exact H.out) (by rw [G.out, HLn.out]; exact HOwn.out) (by rw [G.out]; exact HLt.out)
  rw [G.out] at hw
  exact Wrote.drewN (n := 1) (Wrote.part ⟨some k, Or.inl rfl, hw, (Two.refl _ _ _).row (Or.inl rfl) _ _⟩ ((p + 1) % 8))

set_option maxRecDepth 100000 in
set_option maxHeartbeats 1000000 in
theorem wnext_new (B g : Nat) (v : Value) (l : List UInt8) (o : Int) (b : Nat) (w : World) (hb : b < 2) (hll : l.length ≤ 1000000) (hB : B ≤ g) (hBw : B ≤ w.heap.size) (hvg : v.ownBlock ≠ some g)
    (h : Blk w g 77 #[v, .int .i64 0, .int .i64 o]) (hown : w.ownsRow B 5 1 v l.length (byteCells l)) (ho : o = 1 ∨ o = 2) :
    Calls Try.prog 60 #[.pointer (some ⟨g, 0, none⟩), .int .i64 b] w fun e w' => e = .returned (.tuple #[]) ∧ Wrote 77 B w g v.ownBlock (put1 o l 0 b) 1 o w' := by
  obtain ⟨i5, hi, hz0, hz1, hz2⟩ := info_parts info_u8
  have hgl := h.lt
  have hst := step_all (o := o) (p := 0) (b := b) (x := 0) ho (by decide) hb (by decide) (fun q _ _ => by simp)
  obtain ⟨n, hn⟩ : ∃ n, l.length = n := ⟨_, rfl⟩
  rw [hn] at hown hll
  have HG : Hid (grow0 l 0 = l ++ [0]) := Lib.hid (by unfold grow0; rw [if_pos rfl])
  have HN := Lib.hid hn
  have BO := Lib.hid (bit_or 0 b (plc o 0) (plc_lt o 0) hb (by decide) hst.1 hst.2.1)
  have HLt := Lib.hid hst.2.1
  have c0 : w.cell? ⟨g, 0, none⟩ = some v := (h.cell 0).trans rfl
  have c1 : w.cell? ⟨g, 1, none⟩ = some (.int .i64 0) := (h.cell 1).trans rfl
  have c2 : w.cell? ⟨g, 2, none⟩ = some (.int .i64 o) := (h.cell 2).trans rfl
  have H := Lib.hid h
  have HO := Lib.hid hown
  clear h hn hst ho
  go_enter Try.func60, Try.ntmps60
  go_wp2_with (at_builtin; refine wpList_append_lies _ rfl _ _ _ rfl B 5 i5 (.int .u8 0) 1 1 Try.underlying75 hi hz0 hz1 hz2 rfl (by omega) v n (byteCells l) rfl (HO.out.alloc _) ⟨w.heap.size, 0, none⟩ 1 1 [.int .u8 0] rfl rfl (World.news_of_block (heap_alloc_new w _)) (by simp [Value.oneCell']) (by omega) (by unfold maxLen; omega) (by omega) (by simp; omega) (w.heap.size + 1) (by simp) ?_; intro k cap w1 hown1 hgrow hat hlt1; have h1 := (H.out.alloc (.cells #[.int .u8 0] 5)).grown hgrow (fun e => hvg e.symm); have f0 : w1.frozen? ⟨g, 0, none⟩ = false := h1.frozen 0; have c10 : w1.cell? ⟨g, 0, none⟩ = some v := (h1.cell 0).trans rfl)
  have hkg : k ≠ g := by
    rcases hat with e | e
    · intro e2; rw [e2] at e; exact hvg e
    · omega
  have hkw : some k = v.ownBlock ∨ w.heap.size ≤ k := by
    rcases hat with e | e
    · exact Or.inl e.symm
    · exact Or.inr (by omega)
  have hcap : n + 1 ≤ cap ∧ cap ≤ maxLen := by
    rcases hown1.2 with ⟨e, _⟩ | ⟨k', cap', cur, e, _, _, hc, hm, _⟩
    · cases e
    · injection e with _ _ e3; rw [e3]; exact ⟨hc, hm⟩
  obtain ⟨w2, hw2⟩ : ∃ w2, w1.setCell ⟨g, 0, none⟩ (.slice (some ⟨k, 0, none⟩) (n + 1) cap) = w2 := ⟨_, rfl⟩
  have h2 : Blk w2 g 77 #[.slice (some ⟨k, 0, none⟩) (n + 1) cap, .int .i64 0, .int .i64 o] := by rw [← hw2]; exact h1.set_ 0 _
  have hown2 : w2.ownsRow B 5 1 (.slice (some ⟨k, 0, none⟩) (n + 1) cap) (n + 1) (byteCells (l ++ [0])) := by
    rw [← hw2, byteCells_append]
    exact ownsRow_setCell_other hown1 (fun e => hkg (by simpa [Value.ownBlock] using e)) _
  have ht2 : Two w w2 g v.ownBlock := by
    rw [← hw2]
    exact (((Two.refl w g v.ownBlock).alloc _).grown hgrow (Or.inl rfl)).set_ 0 _
  rw [hw2]
  have HL1 := Lib.hid (show (l ++ [0]).length = n + 1 by rw [List.length_append, HN.out]; rfl)
  have hx : w2.cell? ⟨k, n, none⟩ = some (.int .u8 0) := by
    have := hown2.cellAt (j := n) (by omega)
    rw [this, byteCells_at _ n (by rw [HL1.out]; omega)]
    have := lastN_grow l
    rw [HG.out] at this
    unfold lastN at this
    rw [HL1.out] at this
    rw [show n + 1 - 1 = n by omega] at this
    rw [this]
    rfl
  have hf : w2.frozen? ⟨k, n, none⟩ = false := hown2.frozenAt _
  have g0 : w2.cell? ⟨g, 0, none⟩ = some (.slice (some ⟨k, 0, none⟩) (n + 1) cap) := (h2.cell 0).trans rfl
  have g1 : w2.cell? ⟨g, 1, none⟩ = some (.int .i64 0) := (h2.cell 1).trans rfl
  have g2 : w2.cell? ⟨g, 2, none⟩ = some (.int .i64 o) := (h2.cell 2).trans rfl
  have e1 : w2.frozen? ⟨g, 1, none⟩ = false := h2.frozen 1
  obtain ⟨hcap1, hcap2⟩ := hcap
  unfold maxLen at hcap2
  have HT2 := Lib.hid ht2
  have HH2 := Lib.hid h2
  have HO2 := Lib.hid hown2
  have HA := Lib.hid hkw
  clear hown1 hgrow hat hlt1 h1 f0 c10 hw2 h2 hown2 ht2 hkw c0 c1 c2
  have d0 : IntKind.i64.wrap ((n : Int) + 1 - 1) = (n : Int) := by rw [show (n : Int) + 1 - 1 = n by omega]; exact IntWalk.i64_in _ (by omega)
  have d0' : IntKind.i64.wrap (n : Int) = (n : Int) := IntWalk.i64_in _ (by omega)
  have d1 : (0 : Int) ≤ (n : Int) := by omega
  have d2 : (n : Int) < (n : Int) + 1 := by omega
  have hpl : ∀ w3, Calls Try.prog 67 #[.int .i64 0, .int .i64 o] w3 fun e w' => e = .returned (.int .i64 (plc o 0 : Nat)) ∧ w3 = w' := fun w3 => place_any 0 o w3 (by decide)
  have HPl := Lib.hid hpl
  clear hpl
  go_still_tail 26, (by kernel_rfl)
  still_call (same_q (HPl.out _))
  repeat still_step
  refine wpStill_nil ?_
  go_wp2
  go_end0
  refine ⟨rfl, ?_⟩
  have en : (grow0 l 0).length - 1 = n := by rw [HG.out, HL1.out]; rfl
  have hbo : bits .or .u8 0 (wrap64 ((b : Int) * 2 ^ min (plc o 0) 64) % 256) = ((lastN (grow0 l 0) + b * 2 ^ plc o 0 : Nat) : Int) := BO.out.trans (by rw [lastN_grow])
  rw [hbo]
  have hw := wr_bit (l := l) (p := 0) (o := o) (b := b) hkg hB (by rw [HG.out, HL1.out]; exact HH2.out) (by rw [HG.out, HL1.out]; exact HO2.out) (by rw [lastN_grow]; exact HLt.out)
  rw [en] at hw
  exact Wrote.drewN (n := 1) (Wrote.part ⟨some k, HA.out.imp id (fun e => ⟨k, rfl, e⟩), hw, HT2.out.row HA.out _ _⟩ 1)

/-- One bit is written, whatever came before. -/
theorem wnext_any (B g : Nat) (r : Option Nat) (l : List UInt8) (p : Nat) (q o : Int) (b : Nat) (w : World) (hb : b < 2) (hll : l.length ≤ 1000000) (hBw : B ≤ w.heap.size) (h : Wr 77 B w g r l p o) (hf : Fit q l p) (hq : 0 < p → q = o) (ho : o = 1 ∨ o = 2) :
    Calls Try.prog 60 #[.pointer (some ⟨g, 0, none⟩), .int .i64 b] w fun e w' => e = .returned (.tuple #[]) ∧ Wrote 77 B w g r (put1 o l p b) ((p + 1) % 8) o w' := by
  by_cases hp : p = 0
  · subst hp
    obtain ⟨v, h1, h2, rfl, h4, h5⟩ := h
    exact wnext_new B g v l o b w hb hll h5 hBw h4 h1 h2 ho
  · have hl0 : 0 < l.length := List.length_pos_iff.2 (hf.ne_ (by omega))
    obtain ⟨k, cap, rfl, hne, hc, hm, h1, h2, h5⟩ := h.form hl0
    have hG : grow0 l p = l := by unfold grow0; rw [if_neg hp]
    have hz := hf.zeros hq
    rw [hG] at hz
    have hs := step_all ho hf.1 hb (lastN_lt l) hz
    exact wnext_more B g k cap l.length l p o b w (by omega) hf.1 hb hl0 rfl hc hm hne h5 h1 h2 hs.1 hs.2.1
end Go.Proofs.Ytbgechfmbogbpaa
