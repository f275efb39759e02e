/-
  Lemmas and walks, joined: SttSt, SttQs, SttQd, SttDa.
-/
import Derived.Test.YtbagmjedkcipgaaDoorMgSttCl
import Derived.Test.YtbagmjedkcipgaaDoorMgSttOp
import Derived.Test.YtbagmjedkcipgaaDoorMgSttY
namespace Go.Proofs.YtbagmjedkcipgaaDoor
open Go.RowKit

/-- A graphics state: its numbers, its font, its dashes and where they lie. -/
structure St where
  g : Nat → Int
  f : ByteArray
  A : Option Addr
  l : List Int
  c : Nat
def St.cells (s : St) : List Value := (gsC s.g s.f (.slice s.A s.l.length s.c)).toList
def upd (g : Nat → Int) (i : Nat) (u : Int) : Nat → Int := fun k => if k = i then u else g k
/-- A machine's cells: a state, and the row of those that were saved. -/
def mst (s : St) (v : Value) : Array Value := mkM s.cells v
theorem cells_len (s : St) : s.cells.length = 30 := rfl
theorem cells_one (s : St) : ∀ u ∈ s.cells, u.oneCell' = true := by
  intro u hu
  simp only [St.cells, gsC, List.mem_cons, List.not_mem_nil, or_false] at hu
  rcases hu with h | h | h | h | h | h | h | h | h | h | h | h | h | h | h | h | h | h | h | h | h | h | h | h | h | h | h | h | h | h <;> rw [h] <;> rfl
theorem mst_ok (s : St) {v : Value} (hv : v.oneCell' = true) : MOk (mst s v) := mkM_ok (cells_len s) (cells_one s) hv
theorem mst_v (s : St) (v : Value) : (mst s v)[30]? = some v := mkM_at (cells_len s) v
theorem mst_g (s : St) (v : Value) : gOf (mst s v) = s.cells := mkM_g (cells_len s) v
theorem mst_put (s : St) (v v' : Value) : putS (mst s v) v' = mst s v' := rfl
theorem mst_d (s : St) (v : Value) : (gOf (mst s v))[10]? = some (.slice s.A s.l.length s.c) := by rw [mst_g]; rfl
/-- Which number lies in a machine's cell. -/
def gi (j : Nat) : Nat := if j < 10 then j else if j = 29 then 27 else j - 1
def St.put (s : St) (j : Nat) (u : Int) : St := { s with g := upd s.g (gi j) u }
set_option maxRecDepth 100000 in
theorem set_num (s : St) (v : Value) (u : Int) {j : Nat} (h : j < 30) (h1 : j ≠ 10) (h2 : j ≠ 28) : (mst s v).setIfInBounds j (.int .i64 u) = mst (s.put j u) v := by
  rcases (show j = 0 ∨ j = 1 ∨ j = 2 ∨ j = 3 ∨ j = 4 ∨ j = 5 ∨ j = 6 ∨ j = 7 ∨ j = 8 ∨ j = 9 ∨ j = 11 ∨ j = 12 ∨ j = 13 ∨ j = 14 ∨ j = 15 ∨ j = 16 ∨ j = 17 ∨ j = 18 ∨ j = 19 ∨ j = 20 ∨ j = 21 ∨ j = 22 ∨ j = 23 ∨ j = 24 ∨ j = 25 ∨ j = 26 ∨ j = 27 ∨ j = 29 by omega) with rfl | rfl | rfl | rfl | rfl | rfl | rfl | rfl | rfl | rfl | rfl | rfl | rfl | rfl | rfl | rfl | rfl | rfl | rfl | rfl | rfl | rfl | rfl | rfl | rfl | rfl | rfl | rfl <;> rfl
theorem set_str (s : St) (v : Value) (t : ByteArray) : (mst s v).setIfInBounds 28 (.string t) = mst { s with f := t } v := rfl
theorem set_dash (s : St) (v : Value) (A : Option Addr) (l : List Int) (c : Nat) : (mst s v).setIfInBounds 10 (.slice A l.length c) = mst { s with A := A, l := l, c := c } v := rfl
theorem mst_mx (s : St) (v : Value) : ∀ k, k < 6 → (mst s v)[k]? = (mxC ⟨s.g 0, s.g 1, s.g 2, s.g 3, s.g 4, s.g 5⟩)[k]? := by
  intro k hk
  rcases (show k = 0 ∨ k = 1 ∨ k = 2 ∨ k = 3 ∨ k = 4 ∨ k = 5 by omega) with rfl | rfl | rfl | rfl | rfl | rfl <;> rfl

/-- Its dashes lie in memory, apart from block x and the row v; none is negative. -/
structure StIs (w : World) (x : Nat) (v : Value) (s : St) : Prop where
  nat : NAt w s.A s.l
  len : s.l.length ≤ 32
  pos : ∀ z ∈ s.l, 0 ≤ z
  nil : s.A = none → s.c = 0 ∧ s.l = []
  apart : ∀ a, s.A = some a → a.block < w.heap.size ∧ a.block ≠ x ∧ v.ownBlock ≠ some a.block
/-- A row as it was, or a new one. -/
def NewRow (w : World) (v v' : Value) : Prop := v'.ownBlock = v.ownBlock ∨ ∃ g, v'.ownBlock = some g ∧ w.heap.size ≤ g
theorem NewRow.refl (w : World) (v : Value) : NewRow w v v := Or.inl rfl
theorem cell_block {w w' : World} {b : Nat} (h : w'.heap[b]? = w.heap[b]?) (o : Nat) : w'.cell? ⟨b, o, none⟩ = w.cell? ⟨b, o, none⟩ := by
  simp [World.cell?, h]
theorem StIs.step {w w' : World} {x : Nat} {v v' : Value} {s : St} (h : StIs w x v s) (ht : Two w w' x v.ownBlock) (hv : NewRow w v v') : StIs w' x v' s := by
  refine ⟨fun j hj => ?_, h.len, h.pos, h.nil, fun a ha => ?_⟩
  · obtain ⟨b, off, ha, hb, hc⟩ := h.nat j hj
    obtain ⟨_, h2, h3⟩ := h.apart _ ha
    exact ⟨b, off, ha, Nat.lt_of_lt_of_le hb ht.size, (cell_block (ht.block b hb h2 (fun e => h3 e.symm)) _).trans hc⟩
  · obtain ⟨h1, h2, h3⟩ := h.apart a ha
    refine ⟨Nat.lt_of_lt_of_le h1 ht.size, h2, ?_⟩
    rcases hv with hv | ⟨g, hv, hg⟩
    · rw [hv]; exact h3
    · rw [hv]; intro e; injection e with e; omega
theorem StIs.row {w : World} {x : Nat} {v v' : Value} {s : St} (h : StIs w x v s) (hv : v'.ownBlock = v.ownBlock) : StIs w x v' s := ⟨h.nat, h.len, h.pos, h.nil, fun a ha => by rw [hv]; exact h.apart a ha⟩
theorem StIs.sub {w : World} {x : Nat} {v : Value} {s t : St} (h : StIs w x v s) (e1 : t.A = s.A) (e2 : t.l = s.l) (e3 : t.c = s.c) : StIs w x v t := by
  obtain ⟨h1, h2, h3, h4, h5⟩ := h
  exact ⟨by rw [e1, e2]; exact h1, by rw [e2]; exact h2, by rw [e2]; exact h3, by rw [e1, e2, e3]; exact h4, by rw [e1]; exact h5⟩

def flat (ss : List St) : List Value := (ss.map St.cells).flatten
theorem flat_snoc (ss : List St) (s : St) : flat (ss ++ [s]) = flat ss ++ s.cells := by simp [flat]
/-- A machine in memory: block x, all that is its own from block H on. -/
structure MAt (H x : Nat) (w : World) (s : St) (v : Value) (ss : List St) : Prop where
  blk : Blk w x 57 (mst s v)
  one : v.oneCell' = true
  saved : Saved w v ss.length (flat ss)
  vx : v.ownBlock ≠ some x
  vH : ∀ g, v.ownBlock = some g → H ≤ g
  cnt : ss.length ≤ 28
  now : StIs w x v s
  olds : ∀ t ∈ ss, StIs w x v t
  xH : H ≤ x
theorem Two.none_any {w w' : World} {x : Nat} (h : Two w w' x none) (r : Option Nat) : Two w w' x r := ⟨h.os, h.tape, h.output, h.size, fun k h1 h2 _ => h.block k h1 h2 (by simp)⟩
/-- The machine after a call that turned only its own block to another state. -/
theorem MAt.turn {H x : Nat} {w w' : World} {s s' : St} {v : Value} {ss : List St} (h : MAt H x w s v ss) (ht : Two w w' x none) (hb : Blk w' x 57 (mst s' v)) (hs : StIs w' x v s') : MAt H x w' s' v ss :=
  ⟨hb, h.one, own_two h.saved ht h.vx, h.vx, h.vH, h.cnt, hs, fun t htt => (h.olds t htt).step (ht.none_any _) (NewRow.refl _ _), h.xH⟩
theorem MAt.same {H x : Nat} {w w' : World} {s : St} {v : Value} {ss : List St} (h : MAt H x w s v ss) (ht : Two w w' x none) (hb : Blk w' x 57 (mst s v)) : MAt H x w' s v ss :=
  h.turn ht hb (h.now.step (ht.none_any _) (NewRow.refl _ _))
theorem MAt.below {H x : Nat} {w w' : World} {s : St} {v : Value} {ss : List St} (h : MAt H x w s v ss) (hb : Below w.heap.size w w') : MAt H x w' s v ss :=
  h.same (belowTwo hb x none) (h.blk.below hb h.blk.lt)
theorem own_nat {w : World} {base n c : Nat} {A : Option Addr} {l : List Int} (h : w.ownsRow base 2 1 (.slice A n c) n (numC l)) : NAt w A l := fun j hj => by
  rcases h.2 with ⟨h1, h2⟩ | ⟨g, cap, cur, h1, h2, h3, h4⟩
  · have := h.1
    simp [numC] at this
    injection h1
    omega
  · injection h1 with e1 e2 e3
    subst e1 e3
    have hl := h.1
    simp only [numC, List.length_map, Nat.mul_one] at hl
    have hc := h.cellAt j (by omega)
    refine ⟨g, 0, rfl, ?_, ?_⟩
    · exact (h.lt g rfl).2
    · rw [Nat.zero_add, hc]; simp [numC, hj]

/-- What Do leaves: the number c, and a machine. -/
def DoIs (H x : Nat) (w : World) (s : St) (v : Value) (ss : List St) (nm : List UInt8) (c : Int) (e : Ending) (w' : World) : Prop :=
  ∃ (s' : St) (v' : Value) (ss' : List St), e = .returned (.int .i64 c) ∧ MAt H x w' s' v' ss' ∧ Two w w' x v.ownBlock ∧ NewRow w v v' ∧ (c ≠ 0 → s' = s ∧ v' = v ∧ ss' = ss ∧ Two w w' x none) ∧ (ss' = ss ∨ ss' = ss ++ [s] ∨ (nm = [81] ∧ ss = ss' ++ [s']))
/-- Do of an operator answers one number, wherever its operands lie so. -/
def DoesAt (H x : Nat) (s : St) (v : Value) (ss : List St) (nm data : ByteArray) (A : Option Addr) (n ac : Nat) (Z : World → Prop) : Prop :=
  ∃ c : Int, ∀ w : World, MAt H x w s v ss → SpaceAt w → 0 < w.heap.size → H ≤ w.heap.size → Z w →
    Calls Tryd.prog 8 #[.pointer (some ⟨x, 0, none⟩), .agg #[.string nm, .slice A n ac, .string data]] w (DoIs H x w s v ss nm.data.toList c)

section
variable {H x : Nat} {w : World} {s : St} {v : Value} {ss : List St} (h : MAt H x w s v ss) (hsp : SpaceAt w) (hg : 0 < w.heap.size)
  (F : FuncId) (henter : ∀ (args : Array Value) (V : World), (callFunc F args).run Tryd.prog V = .ok (.enter F args) V) (nm data : ByteArray) (A : Option Addr) (ac : Nat) (ks : List Int)
  (hch : ∀ V : World, Calls Tryd.prog 20 #[.string nm] V fun e w' => e = .returned (.func (.func F) #[] #[]) ∧ V = w')
  (hA : ArgsAt w A ks) (hkn : ks.length ≤ 9223372036854775807)
include h in
theorem do_else (al : Nat) (hn : nm.data.toList ∉ opNames) : Calls Tryd.prog 8 #[.pointer (some ⟨x, 0, none⟩), .agg #[.string nm, .slice A al ac, .string data]] w (DoIs H x w s v ss nm.data.toList 8) := by
  refine (do_none x nm data A al ac w (fun V => change_else nm hn V)).mono ?_
  rintro e w' ⟨rfl, hb⟩
  exact ⟨s, v, ss, rfl, h.below hb, belowTwo hb x _, NewRow.refl _ _, fun _ => ⟨rfl, rfl, rfl, belowTwo hb x none⟩, Or.inl rfl⟩
include h hsp hg hch hA hkn in
theorem do_chk (hc : chkOp nm.data.toList data.data.toList ks ≠ 0) : Calls Tryd.prog 8 #[.pointer (some ⟨x, 0, none⟩), .agg #[.string nm, .slice A ks.length ac, .string data]] w (DoIs H x w s v ss nm.data.toList (chkOp nm.data.toList data.data.toList ks)) := by
  refine (do_bad F x nm data A ac ks _ hc w hch rfl hA hkn hsp hg).mono ?_
  rintro e w' ⟨rfl, hb⟩
  exact ⟨s, v, ss, rfl, h.below hb, belowTwo hb x _, NewRow.refl _ _, fun _ => ⟨rfl, rfl, rfl, belowTwo hb x none⟩, Or.inl rfl⟩
include h hsp hg henter hch hA hkn in
theorem do_fail (c : Int) (hc : c ≠ 0) (hks : chkOp nm.data.toList data.data.toList ks = 0)
    (hF : ∀ (V : World) (N : Nat), Below w.heap.size w V → w.heap.size ≤ N → Blk V N 57 (mst s v) →
      Calls Tryd.prog F #[.pointer (some ⟨N, 0, none⟩), .slice A ks.length ac] V fun e w' => e = gUp c ∧ Two V w' N none) : Calls Tryd.prog 8 #[.pointer (some ⟨x, 0, none⟩), .agg #[.string nm, .slice A ks.length ac, .string data]] w (DoIs H x w s v ss nm.data.toList c) := by
  refine (do_no F x (mst s v) nm data A ac ks c hc w henter hch hks hA hkn hsp hg h.blk (mst_ok s h.one) hF).mono ?_
  rintro e w' ⟨rfl, hb, ht⟩
  exact ⟨s, v, ss, rfl, h.same ht hb, ht.none_any _, NewRow.refl _ _, fun _ => ⟨rfl, rfl, rfl, ht⟩, Or.inl rfl⟩
include h hsp hg henter hch hA hkn in
theorem do_set (s' : St) (e1 : s'.A = s.A) (e2 : s'.l = s.l) (e3 : s'.c = s.c) (hks : chkOp nm.data.toList data.data.toList ks = 0)
    (hF : ∀ (V : World) (N : Nat), Below w.heap.size w V → w.heap.size ≤ N → Blk V N 57 (mst s v) →
      Calls Tryd.prog F #[.pointer (some ⟨N, 0, none⟩), .slice A ks.length ac] V fun e w' => e = .returned (.tuple #[]) ∧ Blk w' N 57 (mst s' v) ∧ Two V w' N none) : Calls Tryd.prog 8 #[.pointer (some ⟨x, 0, none⟩), .agg #[.string nm, .slice A ks.length ac, .string data]] w (DoIs H x w s v ss nm.data.toList 0) := by
  refine (do_ok F x (mst s v) nm data A ac ks none (fun _ M' _ => M' = mst s' v) w henter hch hks hA hkn hsp hg h.blk (mst_ok s h.one) (fun k hk => by cases hk) (fun _ _ _ _ hT _ _ => hT) (fun V N hV hN hVN => (hF V N hV hN hVN).mono ?_)).mono ?_
  · rintro e w' ⟨rfl, hb, ht⟩
    exact ⟨rfl, _, mst_ok s' h.one, hb, ht, rfl⟩
  · rintro e w' ⟨rfl, V, M', hb, _, rfl, ht⟩
    have hs := ((h.now.step (ht.none_any _) (NewRow.refl _ v)).sub e1 e2 e3)
    exact ⟨s', v, ss, rfl, h.turn ht hb hs, ht.none_any _, NewRow.refl _ _, fun hc => absurd rfl hc, Or.inl rfl⟩
end
end Go.Proofs.YtbagmjedkcipgaaDoor
namespace Go.Proofs.YtbagmjedkcipgaaDoor
open Go.RowKit

set_option maxRecDepth 100000 in
theorem save_none (n : Nat) (M : Array Value) (A : Option Addr) (cp k : Nat) (W : World) (hk : 28 ≤ k) (hv : M[30]? = some (.slice A k cp)) (hb : Blk W n 57 M) :
    Calls Tryd.prog 29 #[.pointer (some ⟨n, 0, none⟩)] W fun e w' => e = gUp 6 ∧ W = w' := by
  have c30 : W.cell? ⟨n, 30, none⟩ = some (.slice A k cp) := (hb.cell 30).trans hv
  have hkI : ¬ (k : Int) < 28 := by omega
  clear hv hb hk
  go_enter Tryd.func29, Tryd.ntmps29
  go_wp2_with fail
  refine (up_any 6 _).mono ?_
  rintro e w' ⟨rfl, rfl⟩
  exact ⟨rfl, rfl, rfl⟩
theorem change1_no (n : Nat) (M : Array Value) (A : Option Addr) (cp k : Nat) (W : World) (A' : Option Addr) (al ac : Nat) (hk : 28 ≤ k) (hv : M[30]? = some (.slice A k cp)) (hb : Blk W n 57 M) :
    Calls Tryd.prog 28 #[.pointer (some ⟨n, 0, none⟩), .slice A' al ac] W fun e w' => e = gUp 6 ∧ Two W w' n none := by
  have HS := Lib.hid (save_none n M A cp k W hk hv hb)
  clear hv hb hk
  go_enter Tryd.func28, Tryd.ntmps28
  go_wp2_with fail
  refine HS.out.mono ?_
  rintro e w1 ⟨rfl, rfl⟩
  exact ⟨rfl, rfl, Two.refl _ _ _⟩

section
variable {H x : Nat} {w : World} {s : St} {v : Value} {ss : List St} (h : MAt H x w s v ss) (hsp : SpaceAt w) (hg : 0 < w.heap.size) (data : ByteArray) (A : Option Addr) (ac : Nat)
include h in
theorem saved_lt {k : Nat} (hk : v.ownBlock = some k) : k < w.heap.size := own_lt h.saved hk
include h hsp hg in
/-- q, where there is room. -/
theorem q_ok (hH : H ≤ w.heap.size) (hks : chkOp [113] data.data.toList [] = 0) (hk : ss.length < 28) :
    Calls Tryd.prog 8 #[.pointer (some ⟨x, 0, none⟩), .agg #[.string ⟨#[113]⟩, .slice A 0 ac, .string data]] w fun e w' => e = .returned (.int .i64 0) ∧ ∃ v', MAt H x w' s v' (ss ++ [s]) ∧ Two w w' x v.ownBlock ∧ NewRow w v v' := by
  refine (do_ok 28 x (mst s v) ⟨#[113]⟩ data A ac [] v.ownBlock
    (fun V M' w' => ∃ v', M' = mst s v' ∧ v'.oneCell' = true ∧ Saved w' v' (ss.length + 1) (flat ss ++ s.cells) ∧ v'.ownBlock ≠ some x ∧ (∀ g, v'.ownBlock = some g → g < w.heap.size ∨ V.heap.size ≤ g) ∧ NewRow w v v') w
    (fun _ _ => by kernel_rfl) change_q hks (fun _ hj => absurd hj (Nat.not_lt_zero _)) (by decide) hsp hg h.blk (mst_ok s h.one) (fun k' hk' => ⟨saved_lt h hk', fun e => h.vx (by rw [hk', e])⟩) ?_ ?_).mono ?_
  · rintro V M' a b ⟨v', h1, h2, h3, h4, h5, h6⟩ hs hb
    exact ⟨v', h1, h2, own_same h3 (fun g hg' => hb g (own_lt h3 hg') (fun e => h4 (by rw [hg', e])) (h5 g hg')), h4, h5, h6⟩
  · intro V N hV hN hVN
    refine (change1_any N (mst s v) v ss.length (flat ss) V A 0 ac (mst_ok s h.one) (mst_v s v) hVN (own_below h.saved hV) hk (fun e => by have := saved_lt h e; omega)).mono ?_
    rintro e w' ⟨rfl, v', h1, h2, h3, h4, h5, h6⟩
    rw [mst_put] at h1
    rw [mst_g] at h3
    refine ⟨rfl, mst s v', mst_ok s h2, h1, h6, v', rfl, h2, h3, ?_, ?_, ?_⟩
    · rcases h5 with h5 | ⟨g, h5, h7⟩
      · rw [h5]; exact h.vx
      · rw [h5]; intro e; injection e with e; have := hV.size; have := h.blk.lt; omega
    · intro g hg'
      rcases h5 with h5 | ⟨g', h5, h7⟩
      · exact Or.inl (saved_lt h (by rw [← h5, hg']))
      · rw [hg'] at h5; injection h5 with h5; exact Or.inr (by omega)
    · rcases h5 with h5 | ⟨g, h5, h7⟩
      · exact Or.inl h5
      · exact Or.inr ⟨g, h5, by have := hV.size; omega⟩
  · rintro e w' ⟨rfl, V, M', h1, h2, ⟨v', rfl, h3, h4, h5, _, h6⟩, h7⟩
    have hs : ∀ t, StIs w x v t → StIs w' x v' t := fun t ht => ht.step h7 h6
    refine ⟨rfl, v', ⟨h1, h3, ?_, h5, ?_, ?_, hs s h.now, ?_, h.xH⟩, h7, h6⟩
    · rw [flat_snoc, List.length_append]; exact h4
    · intro g hg'
      rcases h6 with h6 | ⟨g', h6, h8⟩
      · exact h.vH g (by rw [← h6, hg'])
      · rw [hg'] at h6; injection h6 with h6; omega
    · rw [List.length_append]; simp; omega
    · intro t ht
      rcases List.mem_append.1 ht with ht | ht
      · exact hs t (h.olds t ht)
      · rw [List.mem_singleton.1 ht]; exact hs s h.now
include h hsp hg in
/-- Q, where a state was saved. -/
theorem Q_ok (ts : List St) (t : St) (hss : ss = ts ++ [t]) (hks : chkOp [81] data.data.toList [] = 0) :
    Calls Tryd.prog 8 #[.pointer (some ⟨x, 0, none⟩), .agg #[.string ⟨#[81]⟩, .slice A 0 ac, .string data]] w fun e w' => e = .returned (.int .i64 0) ∧ ∃ v', MAt H x w' t v' ts ∧ Two w w' x none ∧ NewRow w v v' := by
  have hsv := h.saved
  have hcn := h.cnt
  rw [hss, flat_snoc, List.length_append] at hsv
  rw [hss, List.length_append] at hcn
  replace hcn : ts.length + 1 ≤ 28 := hcn
  replace hsv : Saved w v (ts.length + 1) (flat ts ++ t.cells) := hsv
  refine (do_ok 30 x (mst s v) ⟨#[81]⟩ data A ac [] none
    (fun V M' w' => ∃ v', M' = mst t v' ∧ v'.oneCell' = true ∧ Saved w' v' ts.length (flat ts) ∧ v'.ownBlock = v.ownBlock) w
    (fun _ _ => by kernel_rfl) change_Q hks (fun _ hj => absurd hj (Nat.not_lt_zero _)) (by decide) hsp hg h.blk (mst_ok s h.one) (fun k' hk' => by cases hk') ?_ ?_).mono ?_
  · rintro V M' a b ⟨v', h1, h2, h3, h4⟩ hs hb
    exact ⟨v', h1, h2, own_same h3 (fun g hg' => hb g (own_lt h3 hg') (fun e => h.vx (by rw [← h4, hg', e])) (Or.inl (own_lt hsv (by rw [← h4, hg'])))), h4⟩
  · intro V N hV hN hVN
    refine (change2_ok N (mst s v) v ts.length (flat ts) t.cells V A 0 ac (mst_ok s h.one) (mst_v s v) hVN (own_below hsv hV) (cells_len t) (cells_one t) (by omega) (fun e => by have := saved_lt h e; omega)).mono ?_
    rintro e w' ⟨rfl, v', h1, h2, h3, h4, h6⟩
    exact ⟨rfl, mst t v', mst_ok t h2, h1, h6, v', rfl, h2, h3, h4⟩
  · rintro e w' ⟨rfl, V, M', h1, h2, ⟨v', rfl, h3, h4, h5⟩, h7⟩
    have hs : ∀ t, StIs w x v t → StIs w' x v' t := fun t ht => ht.step (h7.none_any _) (Or.inl h5)
    refine ⟨rfl, v', ⟨h1, h3, h4, by rw [h5]; exact h.vx, fun g hg' => h.vH g (by rw [← h5, hg']), by omega, hs t (h.olds t (by rw [hss]; simp)), fun u hu => hs u (h.olds u (by rw [hss]; simp [hu])), h.xH⟩, h7, Or.inl h5⟩

end
theorem do_q_any (H x : Nat) (s : St) (v : Value) (ss : List St) (data : ByteArray) (A : Option Addr) (ac : Nat) (Z : World → Prop) (hks : chkOp [113] data.data.toList [] = 0) : DoesAt H x s v ss ⟨#[113]⟩ data A 0 ac Z := by
  by_cases hk : ss.length < 28
  · refine ⟨0, fun w h hsp hg hH _ => (q_ok h hsp hg data A ac hH hks hk).mono ?_⟩
    rintro e w' ⟨rfl, v', h1, h2, h3⟩
    exact ⟨s, v', _, rfl, h1, h2, h3, fun hc => absurd rfl hc, Or.inr (Or.inl rfl)⟩
  · refine ⟨6, fun w h hsp hg _ _ => ?_⟩
    obtain ⟨A0, c0, hv0⟩ := own_form h.saved
    exact do_fail h hsp hg 28 (fun _ _ => by kernel_rfl) ⟨#[113]⟩ data A ac [] change_q (fun _ hj => absurd hj (Nat.not_lt_zero _)) (by decide) 6 (by decide) hks
      (fun V N _ _ hVN => change1_no N (mst s v) A0 c0 ss.length V A 0 ac (by omega) (by rw [mst_v, hv0]) hVN)
theorem do_Q_any (H x : Nat) (s : St) (v : Value) (ss : List St) (data : ByteArray) (A : Option Addr) (ac : Nat) (Z : World → Prop) (hks : chkOp [81] data.data.toList [] = 0) : DoesAt H x s v ss ⟨#[81]⟩ data A 0 ac Z := by
  rcases List.eq_nil_or_concat ss with hs | ⟨ts, t, hs⟩
  · refine ⟨29, fun w h hsp hg _ _ => ?_⟩
    obtain ⟨A0, c0, hv0⟩ := own_form h.saved
    exact do_fail h hsp hg 30 (fun _ _ => by kernel_rfl) ⟨#[81]⟩ data A ac [] change_Q (fun _ hj => absurd hj (Nat.not_lt_zero _)) (by decide) 29 (by decide) hks
      (fun V N _ _ hVN => change2_no N (mst s v) A0 c0 V A 0 ac (by rw [mst_v, hv0, hs]; rfl) hVN)
  · rw [List.concat_eq_append] at hs
    refine ⟨0, fun w h hsp hg _ _ => (Q_ok h hsp hg data A ac ts t hs hks).mono ?_⟩
    rintro e w' ⟨rfl, v', h1, h2, h3⟩
    exact ⟨t, v', ts, rfl, h1, h2.none_any _, h3, fun hc => absurd rfl hc, Or.inr (Or.inr ⟨rfl, hs⟩)⟩
end Go.Proofs.YtbagmjedkcipgaaDoor
namespace Go.Proofs.YtbagmjedkcipgaaDoor
open Go.RowKit

theorem unitsL_len (l : List (Int × Int)) : (unitsL l).length = l.length := List.length_map _
theorem isTo_pos {k y m : Int} (h : okTo k y m = true) : 0 ≤ unitsOf k y := by
  simp only [okTo, Bool.and_eq_true, decide_eq_true_eq] at h
  exact h.2.1
theorem dash_pos {l : List (Int × Int)} (h : okDash l = true) : ∀ z ∈ unitsL l, 0 ≤ z := by
  intro z hz
  obtain ⟨p, hp, rfl⟩ := List.mem_map.1 hz
  exact isTo_pos (List.all_eq_true.1 h p hp)
theorem kid0 {W : World} {b off : Nat} {t : Tree} {ts : List Tree} (h : KidsIs W (some ⟨b, off, none⟩) 0 (t :: ts)) : KidAt W (some ⟨b, off, none⟩) 0 t := kids_at _ 0 h 0 (by simp)
theorem kid1 {W : World} {b off : Nat} {t u : Tree} {ts : List Tree} (h : KidsIs W (some ⟨b, off, none⟩) 0 (t :: u :: ts)) : KidAt W (some ⟨b, off, none⟩) 1 u := kids_at _ 0 h 1 (by simp)
theorem num0 {W : World} {b off : Nat} {t : Tree} {ts : List Tree} (h : KidsIs W (some ⟨b, off, none⟩) 0 (t :: ts)) : NumAt W b off t.k t.n := by
  have := kid_num (kid0 h)
  rwa [Nat.zero_mul, Nat.add_zero] at this
theorem num1 {W : World} {b off : Nat} {t u : Tree} {ts : List Tree} (h : KidsIs W (some ⟨b, off, none⟩) 0 (t :: u :: ts)) : NumAt W b (off + 6) u.k u.n := by
  have := kid_num (kid1 h)
  rwa [Nat.one_mul] at this
theorem arr0 {W : World} {b off : Nat} {t : Tree} {ts : List Tree} (h : KidsIs W (some ⟨b, off, none⟩) 0 (t :: ts)) : ∃ (A : Option Addr) (c : Nat), ArrAt W b off A (t.kids.map Tree.kn).length c ∧ RowAt W A (t.kids.map Tree.kn) := by
  have := kid_arr (kid0 h)
  rwa [Nat.zero_mul, Nat.add_zero] at this
theorem str0 {W : World} {b off : Nat} {t : Tree} {ts : List Tree} (h : KidsIs W (some ⟨b, off, none⟩) 0 (t :: ts)) : StrAt0 W b off t.s := by
  have := kid_str (kid0 h)
  rwa [Nat.zero_mul, Nat.add_zero] at this

theorem do_d_any (H x : Nat) (s : St) (v : Value) (ss : List St) (data : ByteArray) (b off ac : Nat) (t u : Tree) (hks : chkOp [100] data.data.toList [t.k, u.k] = 0) :
    DoesAt H x s v ss ⟨#[100]⟩ data (some ⟨b, off, none⟩) 2 ac (fun w => KidsIs w (some ⟨b, off, none⟩) 0 [t, u]) := by
  obtain ⟨kl, hkl⟩ : ∃ l, t.kids.map Tree.kn = l := ⟨_, rfl⟩
  by_cases hok : kl.length ≤ 32 ∧ anyOther kl = false ∧ okDash kl = true ∧ okTo u.k u.n 1073741824 = true
  · obtain ⟨h32, hoth, hd, hy⟩ := hok
    obtain ⟨y, hyy⟩ : ∃ y, unitsOf u.k u.n = y := ⟨_, rfl⟩
    have hlen : (unitsL kl).length ≤ 32 := by rw [unitsL_len]; exact h32
    have hpos := dash_pos hd
    obtain ⟨ul, hul⟩ : ∃ ul, unitsL kl = ul := ⟨_, rfl⟩
    have hll : kl.length = ul.length := by rw [← hul, unitsL_len]
    rw [hul] at hlen hpos
    refine ⟨0, fun w h hsp hg _ hK => ?_⟩
    have hAr : ArgsAt w (some ⟨b, off, none⟩) [t.k, u.k] := kids_args hK
    refine (do_ok 42 x (mst s v) ⟨#[100]⟩ data (some ⟨b, off, none⟩) ac [t.k, u.k] none
      (fun V M' w' => w.heap.size ≤ V.heap.size ∧ ∃ B c, M' = mst (({ s with A := B, l := ul, c := c } : St).put 11 y) v ∧ w'.ownsRow V.heap.size 2 1 (.slice B ul.length c) ul.length (numC ul)) w
      (fun _ _ => by kernel_rfl) change_d hks hAr (Nat.le_of_ble_eq_true rfl) hsp hg h.blk (mst_ok s h.one) (fun k' hk' => by cases hk') ?_ ?_).mono ?_
    · rintro V M' a b ⟨h0, B, c, h1, h2⟩ hs hb
      have hxl := h.blk.lt
      exact ⟨h0, B, c, h1, own_same h2 fun g hg' => by
        have := h2.lt g hg'
        exact hb g this.2 (by omega) (Or.inr this.1)⟩
    · intro V N hV hN hVN
      have hKV := KidsIs.below hV _ _ 0 hK
      obtain ⟨A, c, hAt, hRow⟩ := arr0 hKV
      rw [hkl] at hAt hRow
      refine (c8_ok N (mst s v) b off 2 ac A kl c u.k u.n V hVN (mst_ok s h.one).1 hAt hRow (by decide) h32 hoth hd (num1 hKV) hy).mono ?_
      rintro e w' ⟨rfl, ⟨v', h1, _, h3⟩, h4⟩
      rw [hul] at h3
      rw [hyy] at h1
      obtain ⟨B, c', rfl⟩ := own_form h3
      rw [hll] at h1 h3
      rw [set_dash, set_num _ _ _ (by decide) (by decide) (by decide)] at h1
      exact ⟨rfl, _, mst_ok _ h.one, h1, h4, hV.size, B, c', rfl, h3⟩
    · rintro e w' ⟨rfl, V, M', h1, _, ⟨h0, B, c, rfl, h3⟩, ht⟩
      have hxl := h.blk.lt
      have hs : StIs w' x v (({ s with A := B, l := ul, c := c } : St).put 11 y) := by
        refine ⟨own_nat h3, hlen, hpos, fun hB => ?_, fun a ha => ?_⟩
        · rcases h3.2 with ⟨e1, e2⟩ | ⟨g, cap, cur, e1, _⟩
          · injection e1 with _ e3 e4
            exact ⟨e4, List.eq_nil_of_length_eq_zero e3⟩
          · injection e1 with e1
            rw [show B = none from hB] at e1
            cases e1
        rcases h3.2 with ⟨e1, e2⟩ | ⟨g, cap, cur, e1, _⟩
        · injection e1 with e1
          rw [show B = some a from ha] at e1; cases e1
        · injection e1 with e1
          rw [show B = some a from ha] at e1
          injection e1 with e1
          subst e1
          have := h3.lt g (by rw [show B = some _ from ha]; rfl)
          refine ⟨this.2, by show g ≠ x; omega, fun e => ?_⟩
          have := saved_lt h e
          change g < _ at this
          omega
      exact ⟨_, v, ss, rfl, h.turn ht h1 hs, ht.none_any _, NewRow.refl _ _, fun hc => absurd rfl hc, Or.inl rfl⟩
  · obtain ⟨c, hc⟩ : ∃ c : Int, c = if 32 < kl.length then 6 else if anyOther kl = true then 28 else 2 := ⟨_, rfl⟩
    refine ⟨c, fun w h hsp hg _ hK => ?_⟩
    have hAr : ArgsAt w (some ⟨b, off, none⟩) [t.k, u.k] := kids_args hK
    refine do_fail h hsp hg 42 (fun _ _ => by kernel_rfl) ⟨#[100]⟩ data (some ⟨b, off, none⟩) ac [t.k, u.k] change_d hAr (Nat.le_of_ble_eq_true rfl) c (by subst hc; (repeat' split) <;> decide) hks fun V N hV hN hVN => ?_
    have hKV := KidsIs.below hV _ _ 0 hK
    obtain ⟨A, c2, hAt, hRow⟩ := arr0 hKV
    rw [hkl] at hAt hRow
    refine (c8_no N b off 2 ac A kl c2 u.k u.n V hAt hRow (by decide) (num1 hKV) ?_).mono ?_
    · by_cases h1 : 32 < kl.length
      · exact Or.inl h1
      · by_cases h2 : anyOther kl = true
        · exact Or.inr (Or.inl h2)
        · by_cases h3 : okDash kl = true
          · refine Or.inr (Or.inr (Or.inr ?_))
            by_cases h4 : okTo u.k u.n 1073741824 = true
            · exact absurd ⟨by omega, by simpa using h2, h3, h4⟩ hok
            · simpa using h4
          · exact Or.inr (Or.inr (Or.inl (by simpa using h3)))
    · rintro e w' ⟨⟨z, h1, h2⟩, h3⟩
      subst h2
      rw [← hc] at h1
      exact ⟨h1, h3⟩
end Go.Proofs.YtbagmjedkcipgaaDoor
namespace Go.Proofs.YtbagmjedkcipgaaDoor
open Go.RowKit Mat

theorem keep_len {M : Array Value} (h : MOk M) {j : Nat} (hj : j < 31) : j < M.size := by rw [h.1]; exact hj
section
variable (H x : Nat) (s : St) (v : Value) (ss : List St) (data : ByteArray) (b off ac : Nat)
set_option maxRecDepth 100000 in
theorem do_w_any (t : Tree) (hks : chkOp [119] data.data.toList [t.k] = 0) :
    DoesAt H x s v ss ⟨#[119]⟩ data (some ⟨b, off, none⟩) 1 ac (fun w => KidsIs w (some ⟨b, off, none⟩) 0 [t]) := by
  by_cases hok : okTo t.k t.n 1073741824 = true
  · refine ⟨0, fun w h hsp hg _ hK => ?_⟩
    have hAr : ArgsAt w (some ⟨b, off, none⟩) [t.k] := kids_args hK
    refine do_set h hsp hg 36 (fun _ _ => by kernel_rfl) ⟨#[119]⟩ data (some ⟨b, off, none⟩) ac [t.k] change_w hAr (Nat.le_of_ble_eq_true rfl) (s.put 6 (unitsOf t.k t.n)) rfl rfl rfl hks fun V N hV hN hVN => ?_
    have := change4_ok N (mst s v) b off 1 ac t.k t.n V hVN (num0 (KidsIs.below hV _ _ 0 hK)) (by decide) hok (keep_len (mst_ok s h.one) (by decide))
    rw [set_num _ _ _ (by decide) (by decide) (by decide)] at this
    exact this
  · refine ⟨2, fun w h hsp hg _ hK => ?_⟩
    have hAr : ArgsAt w (some ⟨b, off, none⟩) [t.k] := kids_args hK
    exact do_fail h hsp hg 36 (fun _ _ => by kernel_rfl) ⟨#[119]⟩ data (some ⟨b, off, none⟩) ac [t.k] change_w hAr (Nat.le_of_ble_eq_true rfl) 2 (by decide) hks fun V N hV hN hVN =>
      c4_no N b off 1 ac t.k t.n V (num0 (KidsIs.below hV _ _ 0 hK)) (by decide) (by simpa using hok)
set_option maxRecDepth 100000 in
theorem do_M_any (t : Tree) (hks : chkOp [77] data.data.toList [t.k] = 0) :
    DoesAt H x s v ss ⟨#[77]⟩ data (some ⟨b, off, none⟩) 1 ac (fun w => KidsIs w (some ⟨b, off, none⟩) 0 [t]) := by
  by_cases hok : okTo t.k t.n 1073741824 = true
  · refine ⟨0, fun w h hsp hg _ hK => ?_⟩
    have hAr : ArgsAt w (some ⟨b, off, none⟩) [t.k] := kids_args hK
    refine do_set h hsp hg 38 (fun _ _ => by kernel_rfl) ⟨#[77]⟩ data (some ⟨b, off, none⟩) ac [t.k] change_M hAr (Nat.le_of_ble_eq_true rfl) (s.put 9 (unitsOf t.k t.n)) rfl rfl rfl hks fun V N hV hN hVN => ?_
    have := c5_ok N (mst s v) b off 1 ac t.k t.n V hVN (num0 (KidsIs.below hV _ _ 0 hK)) (by decide) hok (keep_len (mst_ok s h.one) (by decide))
    rw [set_num _ _ _ (by decide) (by decide) (by decide)] at this
    exact this
  · refine ⟨2, fun w h hsp hg _ hK => ?_⟩
    have hAr : ArgsAt w (some ⟨b, off, none⟩) [t.k] := kids_args hK
    exact do_fail h hsp hg 38 (fun _ _ => by kernel_rfl) ⟨#[77]⟩ data (some ⟨b, off, none⟩) ac [t.k] change_M hAr (Nat.le_of_ble_eq_true rfl) 2 (by decide) hks fun V N hV hN hVN =>
      c5_no N b off 1 ac t.k t.n V (num0 (KidsIs.below hV _ _ 0 hK)) (by decide) (by simpa using hok)
set_option maxRecDepth 100000 in
theorem do_J_any (t : Tree) (hks : chkOp [74] data.data.toList [t.k] = 0) :
    DoesAt H x s v ss ⟨#[74]⟩ data (some ⟨b, off, none⟩) 1 ac (fun w => KidsIs w (some ⟨b, off, none⟩) 0 [t]) := by
  by_cases hok : okCh t.k t.n 2 = true
  · refine ⟨0, fun w h hsp hg _ hK => ?_⟩
    have hAr : ArgsAt w (some ⟨b, off, none⟩) [t.k] := kids_args hK
    refine do_set h hsp hg 39 (fun _ _ => by kernel_rfl) ⟨#[74]⟩ data (some ⟨b, off, none⟩) ac [t.k] change_J hAr (Nat.le_of_ble_eq_true rfl) (s.put 7 ((unitsOf t.k t.n).tdiv 10000)) rfl rfl rfl hks fun V N hV hN hVN => ?_
    have := c6_ok N (mst s v) b off 1 ac t.k t.n V hVN (num0 (KidsIs.below hV _ _ 0 hK)) (by decide) hok (keep_len (mst_ok s h.one) (by decide))
    rw [set_num _ _ _ (by decide) (by decide) (by decide)] at this
    exact this
  · refine ⟨2, fun w h hsp hg _ hK => ?_⟩
    have hAr : ArgsAt w (some ⟨b, off, none⟩) [t.k] := kids_args hK
    exact do_fail h hsp hg 39 (fun _ _ => by kernel_rfl) ⟨#[74]⟩ data (some ⟨b, off, none⟩) ac [t.k] change_J hAr (Nat.le_of_ble_eq_true rfl) 2 (by decide) hks fun V N hV hN hVN =>
      c6_no N b off 1 ac t.k t.n V (num0 (KidsIs.below hV _ _ 0 hK)) (by decide) (by simpa using hok)
set_option maxRecDepth 100000 in
theorem do_j_any (t : Tree) (hks : chkOp [106] data.data.toList [t.k] = 0) :
    DoesAt H x s v ss ⟨#[106]⟩ data (some ⟨b, off, none⟩) 1 ac (fun w => KidsIs w (some ⟨b, off, none⟩) 0 [t]) := by
  by_cases hok : okCh t.k t.n 2 = true
  · refine ⟨0, fun w h hsp hg _ hK => ?_⟩
    have hAr : ArgsAt w (some ⟨b, off, none⟩) [t.k] := kids_args hK
    refine do_set h hsp hg 41 (fun _ _ => by kernel_rfl) ⟨#[106]⟩ data (some ⟨b, off, none⟩) ac [t.k] change_j hAr (Nat.le_of_ble_eq_true rfl) (s.put 8 ((unitsOf t.k t.n).tdiv 10000)) rfl rfl rfl hks fun V N hV hN hVN => ?_
    have := c7_ok N (mst s v) b off 1 ac t.k t.n V hVN (num0 (KidsIs.below hV _ _ 0 hK)) (by decide) hok (keep_len (mst_ok s h.one) (by decide))
    rw [set_num _ _ _ (by decide) (by decide) (by decide)] at this
    exact this
  · refine ⟨2, fun w h hsp hg _ hK => ?_⟩
    have hAr : ArgsAt w (some ⟨b, off, none⟩) [t.k] := kids_args hK
    exact do_fail h hsp hg 41 (fun _ _ => by kernel_rfl) ⟨#[106]⟩ data (some ⟨b, off, none⟩) ac [t.k] change_j hAr (Nat.le_of_ble_eq_true rfl) 2 (by decide) hks fun V N hV hN hVN =>
      c7_no N b off 1 ac t.k t.n V (num0 (KidsIs.below hV _ _ 0 hK)) (by decide) (by simpa using hok)
set_option maxRecDepth 100000 in
theorem do_Tc_any (t : Tree) (hks : chkOp [84, 99] data.data.toList [t.k] = 0) :
    DoesAt H x s v ss ⟨#[84, 99]⟩ data (some ⟨b, off, none⟩) 1 ac (fun w => KidsIs w (some ⟨b, off, none⟩) 0 [t]) := by
  by_cases hok : isNum t.k t.n = true
  · refine ⟨0, fun w h hsp hg _ hK => ?_⟩
    have hAr : ArgsAt w (some ⟨b, off, none⟩) [t.k] := kids_args hK
    refine do_set h hsp hg 66 (fun _ _ => by kernel_rfl) ⟨#[84, 99]⟩ data (some ⟨b, off, none⟩) ac [t.k] change_Tc hAr (Nat.le_of_ble_eq_true rfl) (s.put 22 (unitsOf t.k t.n)) rfl rfl rfl hks fun V N hV hN hVN => ?_
    have := t1_ok N (mst s v) b off 1 ac t.k t.n V hVN (num0 (KidsIs.below hV _ _ 0 hK)) (by decide) hok (keep_len (mst_ok s h.one) (by decide))
    rw [set_num _ _ _ (by decide) (by decide) (by decide)] at this
    exact this
  · refine ⟨2, fun w h hsp hg _ hK => ?_⟩
    have hAr : ArgsAt w (some ⟨b, off, none⟩) [t.k] := kids_args hK
    exact do_fail h hsp hg 66 (fun _ _ => by kernel_rfl) ⟨#[84, 99]⟩ data (some ⟨b, off, none⟩) ac [t.k] change_Tc hAr (Nat.le_of_ble_eq_true rfl) 2 (by decide) hks fun V N hV hN hVN =>
      t1_no N b off 1 ac t.k t.n V (num0 (KidsIs.below hV _ _ 0 hK)) (by decide) (by simpa using hok)
set_option maxRecDepth 100000 in
theorem do_Tw_any (t : Tree) (hks : chkOp [84, 119] data.data.toList [t.k] = 0) :
    DoesAt H x s v ss ⟨#[84, 119]⟩ data (some ⟨b, off, none⟩) 1 ac (fun w => KidsIs w (some ⟨b, off, none⟩) 0 [t]) := by
  by_cases hok : isNum t.k t.n = true
  · refine ⟨0, fun w h hsp hg _ hK => ?_⟩
    have hAr : ArgsAt w (some ⟨b, off, none⟩) [t.k] := kids_args hK
    refine do_set h hsp hg 67 (fun _ _ => by kernel_rfl) ⟨#[84, 119]⟩ data (some ⟨b, off, none⟩) ac [t.k] change_Tw hAr (Nat.le_of_ble_eq_true rfl) (s.put 23 (unitsOf t.k t.n)) rfl rfl rfl hks fun V N hV hN hVN => ?_
    have := t2_ok N (mst s v) b off 1 ac t.k t.n V hVN (num0 (KidsIs.below hV _ _ 0 hK)) (by decide) hok (keep_len (mst_ok s h.one) (by decide))
    rw [set_num _ _ _ (by decide) (by decide) (by decide)] at this
    exact this
  · refine ⟨2, fun w h hsp hg _ hK => ?_⟩
    have hAr : ArgsAt w (some ⟨b, off, none⟩) [t.k] := kids_args hK
    exact do_fail h hsp hg 67 (fun _ _ => by kernel_rfl) ⟨#[84, 119]⟩ data (some ⟨b, off, none⟩) ac [t.k] change_Tw hAr (Nat.le_of_ble_eq_true rfl) 2 (by decide) hks fun V N hV hN hVN =>
      t2_no N b off 1 ac t.k t.n V (num0 (KidsIs.below hV _ _ 0 hK)) (by decide) (by simpa using hok)
set_option maxRecDepth 100000 in
theorem do_Tz_any (t : Tree) (hks : chkOp [84, 122] data.data.toList [t.k] = 0) :
    DoesAt H x s v ss ⟨#[84, 122]⟩ data (some ⟨b, off, none⟩) 1 ac (fun w => KidsIs w (some ⟨b, off, none⟩) 0 [t]) := by
  by_cases hok : isNum t.k t.n = true
  · refine ⟨0, fun w h hsp hg _ hK => ?_⟩
    have hAr : ArgsAt w (some ⟨b, off, none⟩) [t.k] := kids_args hK
    refine do_set h hsp hg 68 (fun _ _ => by kernel_rfl) ⟨#[84, 122]⟩ data (some ⟨b, off, none⟩) ac [t.k] change_Tz hAr (Nat.le_of_ble_eq_true rfl) (s.put 24 (unitsOf t.k t.n)) rfl rfl rfl hks fun V N hV hN hVN => ?_
    have := t3_ok N (mst s v) b off 1 ac t.k t.n V hVN (num0 (KidsIs.below hV _ _ 0 hK)) (by decide) hok (keep_len (mst_ok s h.one) (by decide))
    rw [set_num _ _ _ (by decide) (by decide) (by decide)] at this
    exact this
  · refine ⟨2, fun w h hsp hg _ hK => ?_⟩
    have hAr : ArgsAt w (some ⟨b, off, none⟩) [t.k] := kids_args hK
    exact do_fail h hsp hg 68 (fun _ _ => by kernel_rfl) ⟨#[84, 122]⟩ data (some ⟨b, off, none⟩) ac [t.k] change_Tz hAr (Nat.le_of_ble_eq_true rfl) 2 (by decide) hks fun V N hV hN hVN =>
      t3_no N b off 1 ac t.k t.n V (num0 (KidsIs.below hV _ _ 0 hK)) (by decide) (by simpa using hok)
set_option maxRecDepth 100000 in
theorem do_TL_any (t : Tree) (hks : chkOp [84, 76] data.data.toList [t.k] = 0) :
    DoesAt H x s v ss ⟨#[84, 76]⟩ data (some ⟨b, off, none⟩) 1 ac (fun w => KidsIs w (some ⟨b, off, none⟩) 0 [t]) := by
  by_cases hok : isNum t.k t.n = true
  · refine ⟨0, fun w h hsp hg _ hK => ?_⟩
    have hAr : ArgsAt w (some ⟨b, off, none⟩) [t.k] := kids_args hK
    refine do_set h hsp hg 69 (fun _ _ => by kernel_rfl) ⟨#[84, 76]⟩ data (some ⟨b, off, none⟩) ac [t.k] change_TL hAr (Nat.le_of_ble_eq_true rfl) (s.put 25 (unitsOf t.k t.n)) rfl rfl rfl hks fun V N hV hN hVN => ?_
    have := t4_ok N (mst s v) b off 1 ac t.k t.n V hVN (num0 (KidsIs.below hV _ _ 0 hK)) (by decide) hok (keep_len (mst_ok s h.one) (by decide))
    rw [set_num _ _ _ (by decide) (by decide) (by decide)] at this
    exact this
  · refine ⟨2, fun w h hsp hg _ hK => ?_⟩
    have hAr : ArgsAt w (some ⟨b, off, none⟩) [t.k] := kids_args hK
    exact do_fail h hsp hg 69 (fun _ _ => by kernel_rfl) ⟨#[84, 76]⟩ data (some ⟨b, off, none⟩) ac [t.k] change_TL hAr (Nat.le_of_ble_eq_true rfl) 2 (by decide) hks fun V N hV hN hVN =>
      t4_no N b off 1 ac t.k t.n V (num0 (KidsIs.below hV _ _ 0 hK)) (by decide) (by simpa using hok)
set_option maxRecDepth 100000 in
theorem do_Ts_any (t : Tree) (hks : chkOp [84, 115] data.data.toList [t.k] = 0) :
    DoesAt H x s v ss ⟨#[84, 115]⟩ data (some ⟨b, off, none⟩) 1 ac (fun w => KidsIs w (some ⟨b, off, none⟩) 0 [t]) := by
  by_cases hok : isNum t.k t.n = true
  · refine ⟨0, fun w h hsp hg _ hK => ?_⟩
    have hAr : ArgsAt w (some ⟨b, off, none⟩) [t.k] := kids_args hK
    refine do_set h hsp hg 70 (fun _ _ => by kernel_rfl) ⟨#[84, 115]⟩ data (some ⟨b, off, none⟩) ac [t.k] change_Ts hAr (Nat.le_of_ble_eq_true rfl) (s.put 27 (unitsOf t.k t.n)) rfl rfl rfl hks fun V N hV hN hVN => ?_
    have := t5_ok N (mst s v) b off 1 ac t.k t.n V hVN (num0 (KidsIs.below hV _ _ 0 hK)) (by decide) hok (keep_len (mst_ok s h.one) (by decide))
    rw [set_num _ _ _ (by decide) (by decide) (by decide)] at this
    exact this
  · refine ⟨2, fun w h hsp hg _ hK => ?_⟩
    have hAr : ArgsAt w (some ⟨b, off, none⟩) [t.k] := kids_args hK
    exact do_fail h hsp hg 70 (fun _ _ => by kernel_rfl) ⟨#[84, 115]⟩ data (some ⟨b, off, none⟩) ac [t.k] change_Ts hAr (Nat.le_of_ble_eq_true rfl) 2 (by decide) hks fun V N hV hN hVN =>
      t5_no N b off 1 ac t.k t.n V (num0 (KidsIs.below hV _ _ 0 hK)) (by decide) (by simpa using hok)
set_option maxRecDepth 100000 in
theorem do_Tr_any (t : Tree) (hks : chkOp [84, 114] data.data.toList [t.k] = 0) :
    DoesAt H x s v ss ⟨#[84, 114]⟩ data (some ⟨b, off, none⟩) 1 ac (fun w => KidsIs w (some ⟨b, off, none⟩) 0 [t]) := by
  by_cases hok : okCh t.k t.n 7 = true
  · refine ⟨0, fun w h hsp hg _ hK => ?_⟩
    have hAr : ArgsAt w (some ⟨b, off, none⟩) [t.k] := kids_args hK
    refine do_set h hsp hg 72 (fun _ _ => by kernel_rfl) ⟨#[84, 114]⟩ data (some ⟨b, off, none⟩) ac [t.k] change_Tr hAr (Nat.le_of_ble_eq_true rfl) (s.put 29 ((unitsOf t.k t.n).tdiv 10000)) rfl rfl rfl hks fun V N hV hN hVN => ?_
    have := t7_ok N (mst s v) b off 1 ac t.k t.n V hVN (num0 (KidsIs.below hV _ _ 0 hK)) (by decide) hok (keep_len (mst_ok s h.one) (by decide))
    rw [set_num _ _ _ (by decide) (by decide) (by decide)] at this
    exact this
  · refine ⟨2, fun w h hsp hg _ hK => ?_⟩
    have hAr : ArgsAt w (some ⟨b, off, none⟩) [t.k] := kids_args hK
    exact do_fail h hsp hg 72 (fun _ _ => by kernel_rfl) ⟨#[84, 114]⟩ data (some ⟨b, off, none⟩) ac [t.k] change_Tr hAr (Nat.le_of_ble_eq_true rfl) 2 (by decide) hks fun V N hV hN hVN =>
      t7_no N b off 1 ac t.k t.n V (num0 (KidsIs.below hV _ _ 0 hK)) (by decide) (by simpa using hok)
set_option maxRecDepth 100000 in
theorem do_g_any (ts : List Tree) (hl : ts.length ≤ 4) (hks : chkOp [103] data.data.toList (ts.map Tree.k) = 0) :
    DoesAt H x s v ss ⟨#[103]⟩ data (some ⟨b, off, none⟩) ts.length ac (fun w => KidsIs w (some ⟨b, off, none⟩) 0 ts) := by
  have e1 : (ts.map Tree.k).length = ts.length := List.length_map _
  have e2 : (ts.map Tree.kn).length = ts.length := List.length_map _
  by_cases hok : okCol (ts.map Tree.kn) = true
  · obtain ⟨ul, hul⟩ : ∃ l, unitsL (ts.map Tree.kn) = l := ⟨_, rfl⟩
    refine ⟨0, fun w h hsp hg _ hK => ?_⟩
    have hAr : ArgsAt w (some ⟨b, off, none⟩) (ts.map Tree.k) := kids_args hK
    rw [← e1]
    refine do_set h hsp hg 45 (fun _ _ => by kernel_rfl) ⟨#[103]⟩ data (some ⟨b, off, none⟩) ac (ts.map Tree.k) change_g hAr (by omega) (((((s.put 12 0).put 13 (ul.getD 0 0)).put 14 (ul.getD 1 0)).put 15 (ul.getD 2 0)).put 16 (ul.getD 3 0)) rfl rfl rfl hks fun V N hV hN hVN => ?_
    have := c10_ok N (mst s v) b off ac (ts.map Tree.kn) V hVN (kids_nums (KidsIs.below hV _ _ 0 hK)) (by omega) hok (mst_ok s h.one).1
    rw [e2] at this
    rw [e1]
    refine this.mono ?_
    rintro e w' ⟨rfl, ⟨x0, x1, x2, x3, hx, h1⟩, h2⟩
    rw [hul] at hx
    injection hx with hx
    injection hx with _ hx
    injection hx with q0 hx
    injection hx with q1 hx
    injection hx with q2 hx
    injection hx with q3 hx
    injection q0 with _ q0
    injection q1 with _ q1
    injection q2 with _ q2
    injection q3 with _ q3
    rw [set_num _ _ _ (by decide) (by decide) (by decide), set_num _ _ _ (by decide) (by decide) (by decide), set_num _ _ _ (by decide) (by decide) (by decide), set_num _ _ _ (by decide) (by decide) (by decide), set_num _ _ _ (by decide) (by decide) (by decide), ← q0, ← q1, ← q2, ← q3] at h1
    exact ⟨rfl, h1, h2⟩
  · refine ⟨2, fun w h hsp hg _ hK => ?_⟩
    have hAr : ArgsAt w (some ⟨b, off, none⟩) (ts.map Tree.k) := kids_args hK
    rw [← e1]
    refine do_fail h hsp hg 45 (fun _ _ => by kernel_rfl) ⟨#[103]⟩ data (some ⟨b, off, none⟩) ac (ts.map Tree.k) change_g hAr (by omega) 2 (by decide) hks fun V N hV hN hVN => ?_
    have := c10_no N b off ac (ts.map Tree.kn) V (kids_nums (KidsIs.below hV _ _ 0 hK)) (by omega) (by simpa using hok)
    rw [e2] at this
    rw [e1]
    exact this
set_option maxRecDepth 100000 in
theorem do_G_any (ts : List Tree) (hl : ts.length ≤ 4) (hks : chkOp [71] data.data.toList (ts.map Tree.k) = 0) :
    DoesAt H x s v ss ⟨#[71]⟩ data (some ⟨b, off, none⟩) ts.length ac (fun w => KidsIs w (some ⟨b, off, none⟩) 0 ts) := by
  have e1 : (ts.map Tree.k).length = ts.length := List.length_map _
  have e2 : (ts.map Tree.kn).length = ts.length := List.length_map _
  by_cases hok : okCol (ts.map Tree.kn) = true
  · obtain ⟨ul, hul⟩ : ∃ l, unitsL (ts.map Tree.kn) = l := ⟨_, rfl⟩
    refine ⟨0, fun w h hsp hg _ hK => ?_⟩
    have hAr : ArgsAt w (some ⟨b, off, none⟩) (ts.map Tree.k) := kids_args hK
    rw [← e1]
    refine do_set h hsp hg 47 (fun _ _ => by kernel_rfl) ⟨#[71]⟩ data (some ⟨b, off, none⟩) ac (ts.map Tree.k) change_G hAr (by omega) (((((s.put 17 0).put 18 (ul.getD 0 0)).put 19 (ul.getD 1 0)).put 20 (ul.getD 2 0)).put 21 (ul.getD 3 0)) rfl rfl rfl hks fun V N hV hN hVN => ?_
    have := c11_ok N (mst s v) b off ac (ts.map Tree.kn) V hVN (kids_nums (KidsIs.below hV _ _ 0 hK)) (by omega) hok (mst_ok s h.one).1
    rw [e2] at this
    rw [e1]
    refine this.mono ?_
    rintro e w' ⟨rfl, ⟨x0, x1, x2, x3, hx, h1⟩, h2⟩
    rw [hul] at hx
    injection hx with hx
    injection hx with _ hx
    injection hx with q0 hx
    injection hx with q1 hx
    injection hx with q2 hx
    injection hx with q3 hx
    injection q0 with _ q0
    injection q1 with _ q1
    injection q2 with _ q2
    injection q3 with _ q3
    rw [set_num _ _ _ (by decide) (by decide) (by decide), set_num _ _ _ (by decide) (by decide) (by decide), set_num _ _ _ (by decide) (by decide) (by decide), set_num _ _ _ (by decide) (by decide) (by decide), set_num _ _ _ (by decide) (by decide) (by decide), ← q0, ← q1, ← q2, ← q3] at h1
    exact ⟨rfl, h1, h2⟩
  · refine ⟨2, fun w h hsp hg _ hK => ?_⟩
    have hAr : ArgsAt w (some ⟨b, off, none⟩) (ts.map Tree.k) := kids_args hK
    rw [← e1]
    refine do_fail h hsp hg 47 (fun _ _ => by kernel_rfl) ⟨#[71]⟩ data (some ⟨b, off, none⟩) ac (ts.map Tree.k) change_G hAr (by omega) 2 (by decide) hks fun V N hV hN hVN => ?_
    have := c11_no N b off ac (ts.map Tree.kn) V (kids_nums (KidsIs.below hV _ _ 0 hK)) (by omega) (by simpa using hok)
    rw [e2] at this
    rw [e1]
    exact this
set_option maxRecDepth 100000 in
theorem do_rg_any (ts : List Tree) (hl : ts.length ≤ 4) (hks : chkOp [114, 103] data.data.toList (ts.map Tree.k) = 0) :
    DoesAt H x s v ss ⟨#[114, 103]⟩ data (some ⟨b, off, none⟩) ts.length ac (fun w => KidsIs w (some ⟨b, off, none⟩) 0 ts) := by
  have e1 : (ts.map Tree.k).length = ts.length := List.length_map _
  have e2 : (ts.map Tree.kn).length = ts.length := List.length_map _
  by_cases hok : okCol (ts.map Tree.kn) = true
  · obtain ⟨ul, hul⟩ : ∃ l, unitsL (ts.map Tree.kn) = l := ⟨_, rfl⟩
    refine ⟨0, fun w h hsp hg _ hK => ?_⟩
    have hAr : ArgsAt w (some ⟨b, off, none⟩) (ts.map Tree.k) := kids_args hK
    rw [← e1]
    refine do_set h hsp hg 48 (fun _ _ => by kernel_rfl) ⟨#[114, 103]⟩ data (some ⟨b, off, none⟩) ac (ts.map Tree.k) change_rg hAr (by omega) (((((s.put 12 1).put 13 (ul.getD 0 0)).put 14 (ul.getD 1 0)).put 15 (ul.getD 2 0)).put 16 (ul.getD 3 0)) rfl rfl rfl hks fun V N hV hN hVN => ?_
    have := c12_ok N (mst s v) b off ac (ts.map Tree.kn) V hVN (kids_nums (KidsIs.below hV _ _ 0 hK)) (by omega) hok (mst_ok s h.one).1
    rw [e2] at this
    rw [e1]
    refine this.mono ?_
    rintro e w' ⟨rfl, ⟨x0, x1, x2, x3, hx, h1⟩, h2⟩
    rw [hul] at hx
    injection hx with hx
    injection hx with _ hx
    injection hx with q0 hx
    injection hx with q1 hx
    injection hx with q2 hx
    injection hx with q3 hx
    injection q0 with _ q0
    injection q1 with _ q1
    injection q2 with _ q2
    injection q3 with _ q3
    rw [set_num _ _ _ (by decide) (by decide) (by decide), set_num _ _ _ (by decide) (by decide) (by decide), set_num _ _ _ (by decide) (by decide) (by decide), set_num _ _ _ (by decide) (by decide) (by decide), set_num _ _ _ (by decide) (by decide) (by decide), ← q0, ← q1, ← q2, ← q3] at h1
    exact ⟨rfl, h1, h2⟩
  · refine ⟨2, fun w h hsp hg _ hK => ?_⟩
    have hAr : ArgsAt w (some ⟨b, off, none⟩) (ts.map Tree.k) := kids_args hK
    rw [← e1]
    refine do_fail h hsp hg 48 (fun _ _ => by kernel_rfl) ⟨#[114, 103]⟩ data (some ⟨b, off, none⟩) ac (ts.map Tree.k) change_rg hAr (by omega) 2 (by decide) hks fun V N hV hN hVN => ?_
    have := c12_no N b off ac (ts.map Tree.kn) V (kids_nums (KidsIs.below hV _ _ 0 hK)) (by omega) (by simpa using hok)
    rw [e2] at this
    rw [e1]
    exact this
set_option maxRecDepth 100000 in
theorem do_RG_any (ts : List Tree) (hl : ts.length ≤ 4) (hks : chkOp [82, 71] data.data.toList (ts.map Tree.k) = 0) :
    DoesAt H x s v ss ⟨#[82, 71]⟩ data (some ⟨b, off, none⟩) ts.length ac (fun w => KidsIs w (some ⟨b, off, none⟩) 0 ts) := by
  have e1 : (ts.map Tree.k).length = ts.length := List.length_map _
  have e2 : (ts.map Tree.kn).length = ts.length := List.length_map _
  by_cases hok : okCol (ts.map Tree.kn) = true
  · obtain ⟨ul, hul⟩ : ∃ l, unitsL (ts.map Tree.kn) = l := ⟨_, rfl⟩
    refine ⟨0, fun w h hsp hg _ hK => ?_⟩
    have hAr : ArgsAt w (some ⟨b, off, none⟩) (ts.map Tree.k) := kids_args hK
    rw [← e1]
    refine do_set h hsp hg 49 (fun _ _ => by kernel_rfl) ⟨#[82, 71]⟩ data (some ⟨b, off, none⟩) ac (ts.map Tree.k) change_RG hAr (by omega) (((((s.put 17 1).put 18 (ul.getD 0 0)).put 19 (ul.getD 1 0)).put 20 (ul.getD 2 0)).put 21 (ul.getD 3 0)) rfl rfl rfl hks fun V N hV hN hVN => ?_
    have := c13_ok N (mst s v) b off ac (ts.map Tree.kn) V hVN (kids_nums (KidsIs.below hV _ _ 0 hK)) (by omega) hok (mst_ok s h.one).1
    rw [e2] at this
    rw [e1]
    refine this.mono ?_
    rintro e w' ⟨rfl, ⟨x0, x1, x2, x3, hx, h1⟩, h2⟩
    rw [hul] at hx
    injection hx with hx
    injection hx with _ hx
    injection hx with q0 hx
    injection hx with q1 hx
    injection hx with q2 hx
    injection hx with q3 hx
    injection q0 with _ q0
    injection q1 with _ q1
    injection q2 with _ q2
    injection q3 with _ q3
    rw [set_num _ _ _ (by decide) (by decide) (by decide), set_num _ _ _ (by decide) (by decide) (by decide), set_num _ _ _ (by decide) (by decide) (by decide), set_num _ _ _ (by decide) (by decide) (by decide), set_num _ _ _ (by decide) (by decide) (by decide), ← q0, ← q1, ← q2, ← q3] at h1
    exact ⟨rfl, h1, h2⟩
  · refine ⟨2, fun w h hsp hg _ hK => ?_⟩
    have hAr : ArgsAt w (some ⟨b, off, none⟩) (ts.map Tree.k) := kids_args hK
    rw [← e1]
    refine do_fail h hsp hg 49 (fun _ _ => by kernel_rfl) ⟨#[82, 71]⟩ data (some ⟨b, off, none⟩) ac (ts.map Tree.k) change_RG hAr (by omega) 2 (by decide) hks fun V N hV hN hVN => ?_
    have := c13_no N b off ac (ts.map Tree.kn) V (kids_nums (KidsIs.below hV _ _ 0 hK)) (by omega) (by simpa using hok)
    rw [e2] at this
    rw [e1]
    exact this
set_option maxRecDepth 100000 in
theorem do_k_any (ts : List Tree) (hl : ts.length ≤ 4) (hks : chkOp [107] data.data.toList (ts.map Tree.k) = 0) :
    DoesAt H x s v ss ⟨#[107]⟩ data (some ⟨b, off, none⟩) ts.length ac (fun w => KidsIs w (some ⟨b, off, none⟩) 0 ts) := by
  have e1 : (ts.map Tree.k).length = ts.length := List.length_map _
  have e2 : (ts.map Tree.kn).length = ts.length := List.length_map _
  by_cases hok : okCol (ts.map Tree.kn) = true
  · obtain ⟨ul, hul⟩ : ∃ l, unitsL (ts.map Tree.kn) = l := ⟨_, rfl⟩
    refine ⟨0, fun w h hsp hg _ hK => ?_⟩
    have hAr : ArgsAt w (some ⟨b, off, none⟩) (ts.map Tree.k) := kids_args hK
    rw [← e1]
    refine do_set h hsp hg 50 (fun _ _ => by kernel_rfl) ⟨#[107]⟩ data (some ⟨b, off, none⟩) ac (ts.map Tree.k) change_k hAr (by omega) (((((s.put 12 2).put 13 (ul.getD 0 0)).put 14 (ul.getD 1 0)).put 15 (ul.getD 2 0)).put 16 (ul.getD 3 0)) rfl rfl rfl hks fun V N hV hN hVN => ?_
    have := c14_ok N (mst s v) b off ac (ts.map Tree.kn) V hVN (kids_nums (KidsIs.below hV _ _ 0 hK)) (by omega) hok (mst_ok s h.one).1
    rw [e2] at this
    rw [e1]
    refine this.mono ?_
    rintro e w' ⟨rfl, ⟨x0, x1, x2, x3, hx, h1⟩, h2⟩
    rw [hul] at hx
    injection hx with hx
    injection hx with _ hx
    injection hx with q0 hx
    injection hx with q1 hx
    injection hx with q2 hx
    injection hx with q3 hx
    injection q0 with _ q0
    injection q1 with _ q1
    injection q2 with _ q2
    injection q3 with _ q3
    rw [set_num _ _ _ (by decide) (by decide) (by decide), set_num _ _ _ (by decide) (by decide) (by decide), set_num _ _ _ (by decide) (by decide) (by decide), set_num _ _ _ (by decide) (by decide) (by decide), set_num _ _ _ (by decide) (by decide) (by decide), ← q0, ← q1, ← q2, ← q3] at h1
    exact ⟨rfl, h1, h2⟩
  · refine ⟨2, fun w h hsp hg _ hK => ?_⟩
    have hAr : ArgsAt w (some ⟨b, off, none⟩) (ts.map Tree.k) := kids_args hK
    rw [← e1]
    refine do_fail h hsp hg 50 (fun _ _ => by kernel_rfl) ⟨#[107]⟩ data (some ⟨b, off, none⟩) ac (ts.map Tree.k) change_k hAr (by omega) 2 (by decide) hks fun V N hV hN hVN => ?_
    have := c14_no N b off ac (ts.map Tree.kn) V (kids_nums (KidsIs.below hV _ _ 0 hK)) (by omega) (by simpa using hok)
    rw [e2] at this
    rw [e1]
    exact this
set_option maxRecDepth 100000 in
theorem do_K_any (ts : List Tree) (hl : ts.length ≤ 4) (hks : chkOp [75] data.data.toList (ts.map Tree.k) = 0) :
    DoesAt H x s v ss ⟨#[75]⟩ data (some ⟨b, off, none⟩) ts.length ac (fun w => KidsIs w (some ⟨b, off, none⟩) 0 ts) := by
  have e1 : (ts.map Tree.k).length = ts.length := List.length_map _
  have e2 : (ts.map Tree.kn).length = ts.length := List.length_map _
  by_cases hok : okCol (ts.map Tree.kn) = true
  · obtain ⟨ul, hul⟩ : ∃ l, unitsL (ts.map Tree.kn) = l := ⟨_, rfl⟩
    refine ⟨0, fun w h hsp hg _ hK => ?_⟩
    have hAr : ArgsAt w (some ⟨b, off, none⟩) (ts.map Tree.k) := kids_args hK
    rw [← e1]
    refine do_set h hsp hg 51 (fun _ _ => by kernel_rfl) ⟨#[75]⟩ data (some ⟨b, off, none⟩) ac (ts.map Tree.k) change_K hAr (by omega) (((((s.put 17 2).put 18 (ul.getD 0 0)).put 19 (ul.getD 1 0)).put 20 (ul.getD 2 0)).put 21 (ul.getD 3 0)) rfl rfl rfl hks fun V N hV hN hVN => ?_
    have := c15_ok N (mst s v) b off ac (ts.map Tree.kn) V hVN (kids_nums (KidsIs.below hV _ _ 0 hK)) (by omega) hok (mst_ok s h.one).1
    rw [e2] at this
    rw [e1]
    refine this.mono ?_
    rintro e w' ⟨rfl, ⟨x0, x1, x2, x3, hx, h1⟩, h2⟩
    rw [hul] at hx
    injection hx with hx
    injection hx with _ hx
    injection hx with q0 hx
    injection hx with q1 hx
    injection hx with q2 hx
    injection hx with q3 hx
    injection q0 with _ q0
    injection q1 with _ q1
    injection q2 with _ q2
    injection q3 with _ q3
    rw [set_num _ _ _ (by decide) (by decide) (by decide), set_num _ _ _ (by decide) (by decide) (by decide), set_num _ _ _ (by decide) (by decide) (by decide), set_num _ _ _ (by decide) (by decide) (by decide), set_num _ _ _ (by decide) (by decide) (by decide), ← q0, ← q1, ← q2, ← q3] at h1
    exact ⟨rfl, h1, h2⟩
  · refine ⟨2, fun w h hsp hg _ hK => ?_⟩
    have hAr : ArgsAt w (some ⟨b, off, none⟩) (ts.map Tree.k) := kids_args hK
    rw [← e1]
    refine do_fail h hsp hg 51 (fun _ _ => by kernel_rfl) ⟨#[75]⟩ data (some ⟨b, off, none⟩) ac (ts.map Tree.k) change_K hAr (by omega) 2 (by decide) hks fun V N hV hN hVN => ?_
    have := c15_no N b off ac (ts.map Tree.kn) V (kids_nums (KidsIs.below hV _ _ 0 hK)) (by omega) (by simpa using hok)
    rw [e2] at this
    rw [e1]
    exact this
set_option maxRecDepth 100000 in
theorem do_Tf_any (t u : Tree) (hks : chkOp [84, 102] data.data.toList [t.k, u.k] = 0) :
    DoesAt H x s v ss ⟨#[84, 102]⟩ data (some ⟨b, off, none⟩) 2 ac (fun w => KidsIs w (some ⟨b, off, none⟩) 0 [t, u]) := by
  by_cases hok : isNum u.k u.n = true
  · refine ⟨0, fun w h hsp hg _ hK => ?_⟩
    have hAr : ArgsAt w (some ⟨b, off, none⟩) [t.k, u.k] := kids_args hK
    refine do_set h hsp hg 71 (fun _ _ => by kernel_rfl) ⟨#[84, 102]⟩ data (some ⟨b, off, none⟩) ac [t.k, u.k] change_Tf hAr (Nat.le_of_ble_eq_true rfl) (({ s with f := t.s } : St).put 26 (unitsOf u.k u.n)) rfl rfl rfl hks fun V N hV hN hVN => ?_
    have hKV := KidsIs.below hV _ _ 0 hK
    have := t6_ok N (mst s v) b off 2 ac t.s u.k u.n V hVN (mst_ok s h.one).1 (fun e => by have := (str0 hK).1; omega) (str0 hKV) (num1 hKV) (by decide) hok
    rw [set_str, set_num _ _ _ (by decide) (by decide) (by decide)] at this
    exact this
  · refine ⟨2, fun w h hsp hg _ hK => ?_⟩
    have hAr : ArgsAt w (some ⟨b, off, none⟩) [t.k, u.k] := kids_args hK
    exact do_fail h hsp hg 71 (fun _ _ => by kernel_rfl) ⟨#[84, 102]⟩ data (some ⟨b, off, none⟩) ac [t.k, u.k] change_Tf hAr (Nat.le_of_ble_eq_true rfl) 2 (by decide) hks fun V N hV hN hVN =>
      t6_no N b off 2 ac t.s u.k u.n V (str0 (KidsIs.below hV _ _ 0 hK)) (num1 (KidsIs.below hV _ _ 0 hK)) (by decide) (by simpa using hok)
set_option maxRecDepth 100000 in
theorem do_i_any (A : Option Addr) (ks : List Int) (hkn : ks.length ≤ 9223372036854775807) (hks : chkOp [105] data.data.toList ks = 0) :
    DoesAt H x s v ss ⟨#[105]⟩ data A ks.length ac (fun w => ArgsAt w A ks) :=
  ⟨0, fun w h hsp hg _ hAr => do_set h hsp hg 44 (fun _ _ => by kernel_rfl) ⟨#[105]⟩ data A ac ks change_i hAr hkn s rfl rfl rfl hks fun V N _ _ hVN =>
    (c9_ok N _ V).mono fun e w' hh => ⟨hh.1, hh.2 ▸ hVN, hh.2 ▸ Two.refl _ _ _⟩⟩
set_option maxRecDepth 100000 in
theorem do_ri_any (A : Option Addr) (ks : List Int) (hkn : ks.length ≤ 9223372036854775807) (hks : chkOp [114, 105] data.data.toList ks = 0) :
    DoesAt H x s v ss ⟨#[114, 105]⟩ data A ks.length ac (fun w => ArgsAt w A ks) :=
  ⟨0, fun w h hsp hg _ hAr => do_set h hsp hg 44 (fun _ _ => by kernel_rfl) ⟨#[114, 105]⟩ data A ac ks change_ri hAr hkn s rfl rfl rfl hks fun V N _ _ hVN =>
    (c9_ok N _ V).mono fun e w' hh => ⟨hh.1, hh.2 ▸ hVN, hh.2 ▸ Two.refl _ _ _⟩⟩
set_option maxRecDepth 100000 in
theorem do_gs_any (A : Option Addr) (ks : List Int) (hkn : ks.length ≤ 9223372036854775807) (hks : chkOp [103, 115] data.data.toList ks = 0) :
    DoesAt H x s v ss ⟨#[103, 115]⟩ data A ks.length ac (fun w => ArgsAt w A ks) :=
  ⟨0, fun w h hsp hg _ hAr => do_set h hsp hg 44 (fun _ _ => by kernel_rfl) ⟨#[103, 115]⟩ data A ac ks change_gs hAr hkn s rfl rfl rfl hks fun V N _ _ hVN =>
    (c9_ok N _ V).mono fun e w' hh => ⟨hh.1, hh.2 ▸ hVN, hh.2 ▸ Two.refl _ _ _⟩⟩
end
end Go.Proofs.YtbagmjedkcipgaaDoor
