/-
  The document's Decode, walked over its rows.
-/
import Derived.Test.YticliemmplefoaaPrdH
namespace Go.Proofs.Yticliemmplefoaa
open Go.RowKit Oct Prd
attribute [-go_sem] Builtin.append_

/-- Appending a row that a call has made, which is then the row before. -/
theorem EncSt.more2 {M n2 : Nat} {W wx wy : World} {pv rv ov lv : Value} {prev row o x : List UInt8} (h : EncSt M W wx pv rv ov prev row o) (hb : Below wx.heap.size wx wy) (hx : wy.ownsRow wx.heap.size 5 1 lv n2 (bC x)) (hx0 : 0 < x.length) (ho : o.length + x.length ≤ 1000000) :
    ∃ g cap wz, Sem.run Try.prog (Builtin.append_ #[42, 42] 42 #[ov, lv]) wy = .ok (.slice (some ⟨g, 0, none⟩) (o ++ x).length cap) wz ∧
      EncSt M W wz lv lv (.slice (some ⟨g, 0, none⟩) (o ++ x).length cap) x x (o ++ x) := by
  have h2 := h.then_below hb
  have hap : Apart wy lv ov := fun A n C e => by
    subst e
    have h3 := hx.lt A.block rfl
    refine ⟨h3.2, fun e2 => ?_⟩
    have := (h.out.lt _ e2).2
    omega
  have h4 : EncSt M W wy lv lv ov x x o := ⟨h2.low, h2.base, h2.out, IsRow.own hx, IsRow.own hx, hap, hap⟩
  obtain ⟨g, cap, wz, h5, h6, h7, h8⟩ := app_row wy M ov lv o x h4.out (IsRow.own hx) hx0 (by omega) h4.base
  exact ⟨g, cap, wz, h5, h4.then_append h7 h6 h8⟩
/-- Appending one byte to a row of the call's own: behind the byte's making. -/
theorem app_byte (W : World) (M : Nat) (v : Value) (o : List UInt8) (b : UInt8) (ho : W.ownsRow M 5 1 v o.length (bC o)) (hb : o.length ≤ 1000000) (hM : M ≤ W.heap.size) :
    ∃ g cap W', Sem.run Try.prog (Builtin.append_ #[42, 42] 42 #[v, .slice (some ⟨W.heap.size, 0, none⟩) 1 1]) (W.alloc (.cells #[.int .u8 (b.toNat : Int)] 5)).drew = .ok (.slice (some ⟨g, 0, none⟩) (o ++ [b]).length cap) W' ∧
      W'.ownsRow M 5 1 (.slice (some ⟨g, 0, none⟩) (o ++ [b]).length cap) (o ++ [b]).length (bC (o ++ [b])) ∧ (∀ w, Below M w W → Below M w W') := by
  have hr : IsRow (W.alloc (.cells #[.int .u8 (b.toNat : Int)] 5)).drew (.slice (some ⟨W.heap.size, 0, none⟩) 1 1) [b] := by
    refine ⟨some ⟨W.heap.size, 0, none⟩, 1, rfl, fun j hj => ⟨W.heap.size, 0, rfl, ?_⟩⟩
    obtain rfl : j = 0 := by simpa using hj
    exact (Blk.new W 5 #[.int .u8 (b.toNat : Int)]).cell 0
  have hs : W.heap.size ≤ (W.alloc (.cells #[.int .u8 (b.toNat : Int)] 5)).drew.heap.size := by
    show W.heap.size ≤ (W.alloc _).heap.size
    rw [World.size_alloc]
    omega
  obtain ⟨g, cap, W', h1, h2, h3, h4⟩ := app_row (W.alloc (.cells #[.int .u8 (b.toNat : Int)] 5)).drew M v _ o [b] ((ho.alloc _).drew) hr (by simp) (by simp; omega) (by omega)
  exact ⟨g, cap, W', h1, h2, fun w hw => ((hw.alloc hM _).drew).grown h3 (by omega) (fun k hk => (ho.lt k hk).1)⟩
theorem dec_next {pr co q : Nat} {l prev o : List UInt8} {j T : Nat} {d : List UInt8} (h : decR pr co q l j = some (prev, o)) (hT : tagIn pr (rowR q l j) = T) (hT5 : T < 5) (hd : (rowR q l j).drop (tgs pr) = d) : decR pr co q l (j + 1) = some (backR T prev co [] d, o ++ backR T prev co [] d) := by
  rw [decR, h]
  simp only [hT, hd]
  rw [if_neg (by omega)]
theorem dec_stop {pr co q : Nat} {l prev o : List UInt8} {j m T : Nat} (h : decR pr co q l j = some (prev, o)) (hT : tagIn pr (rowR q l j) = T) (hT5 : 4 < T) (hj : j < m) : decR pr co q l m = none := by
  refine decR_none (k := j + 1) ?_ m hj
  rw [decR, h]
  simp only [hT]
  rw [if_pos hT5]

end Go.Proofs.Yticliemmplefoaa
