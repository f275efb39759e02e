/-
  hint's decoded: what it answers, and its rows in memory.
-/
import Derived.Test.YtkcnhdponcbjaaaHntI
import Derived.Test.YtkcnhdponcbjaaaHntE
import Derived.Laws.MakeOwn
import Derived.Laws.EntriesVeiled
namespace Go.Proofs.Ytkcnhdponcbjaaa
open Go.RowKit Bt Hnt

def setC (c : Nat) (v : Int) (h : H3) : H3 := match c with | 0 => (v, h.2.1, h.2.2) | 1 => (h.1, v, h.2.2) | _ => (h.1, h.2.1, v)
def colRun (s : ByteArray) (c : Nat) (x w : Int) : Nat → Nat → List H3 → RS → Option (List H3 × RS)
  | 0, _, rows, r => some (rows, r)
  | m + 1, k, rows, r => if tkE s r w = 0 then colRun s c x w m (k + 1) (rows.set k (setC c (x + tkV s r w) (rows.getD k (0, 0, 0)))) (tkS s r w) else none
def rC (s : ByteArray) (p : Nat) : Nat → Nat → H3 → H3 → List H3 → RS → Option (List H3)
  | 0, _, _, _, rows, _ => some rows
  | m + 1, c, A, W, rows, r => match colRun s c (clm c A) (clm c W) p 0 rows r with
    | none => none
    | some (rows', r') => rC s p m (c + 1) A W rows' (alg r'.1, 0)
def rW (s : ByteArray) (p : Nat) : Nat → Nat → H3 → H3 → RS → Option (List H3)
  | 0, _, A, W, r => rC s p 3 0 A W (List.replicate p (0, 0, 0)) r
  | m + 1, c, A, W, r => if tkE s r 16 = 0 then rW s p m (c + 1) A (setC c (tkV s r 16) W) (tkS s r 16) else none
def rL (s : ByteArray) (p : Nat) : Nat → Nat → H3 → RS → Option (List H3)
  | 0, _, A, r => rW s p 3 0 A (0, 0, 0) r
  | m + 1, c, A, r => match longR s r with
    | none => none
    | some (v, r') => rL s p m (c + 1) (setC c v A) r'
/-- What decoded answers: none where it gives up. -/
def decH (s : ByteArray) : Option (List H3) := match longR s (0, 0) with
  | none => none
  | some (p, r) => if 2048 < p then none else rL s p.toNat 3 0 (0, 0, 0) r
theorem colRun_len {s : ByteArray} {c : Nat} {x w : Int} : ∀ (m k : Nat) (rows : List H3) (r : RS) (rows' : List H3) (r' : RS), colRun s c x w m k rows r = some (rows', r') → rows'.length = rows.length
  | 0, _, rows, r, rows', r', h => by
    unfold colRun at h
    injection h with h
    injection h with h1 h2
    rw [← h1]
  | m + 1, k, rows, r, rows', r', h => by
    unfold colRun at h
    split at h
    · rw [colRun_len m (k + 1) _ _ rows' r' h, List.length_set]
    · cases h
theorem rC_len {s : ByteArray} {p : Nat} : ∀ (m c : Nat) (A W : H3) (rows : List H3) (r : RS) (out : List H3), rC s p m c A W rows r = some out → out.length = rows.length
  | 0, _, _, _, rows, _, out, h => by
    unfold rC at h
    injection h with h
    rw [← h]
  | m + 1, c, A, W, rows, r, out, h => by
    unfold rC at h
    split at h
    · cases h
    · rename_i rows' r' h1
      rw [rC_len m (c + 1) A W rows' _ out h, colRun_len _ _ _ _ _ _ h1]
theorem rW_len {s : ByteArray} {p : Nat} : ∀ (m c : Nat) (A W : H3) (r : RS) (out : List H3), rW s p m c A W r = some out → out.length = p
  | 0, _, A, W, r, out, h => by
    unfold rW at h
    rw [rC_len _ _ _ _ _ _ out h, List.length_replicate]
  | m + 1, c, A, W, r, out, h => by
    unfold rW at h
    split at h
    · exact rW_len m (c + 1) A _ _ out h
    · cases h
theorem rL_len {s : ByteArray} {p : Nat} : ∀ (m c : Nat) (A : H3) (r : RS) (out : List H3), rL s p m c A r = some out → out.length = p
  | 0, _, A, r, out, h => rW_len 3 0 A _ r out h
  | m + 1, c, A, r, out, h => by
    unfold rL at h
    split at h
    · cases h
    · exact rL_len m (c + 1) _ _ out h
theorem decH_len {s : ByteArray} {out : List H3} (h : decH s = some out) : out.length ≤ 2048 := by
  unfold decH at h
  split at h
  · cases h
  · rename_i p r hp
    split at h
    · cases h
    · rw [rL_len _ _ _ _ _ h]
      omega

/-! ### Rows in memory. -/
def RAt (w : World) (b : Nat) (T : TypeId) (rows : List H3) : Prop :=
  ∃ cs : Array Value, Blk w b T cs ∧ cs.size = rows.length * 3 ∧ ∀ i (h : i < rows.length), cs[i * 3]? = some (.int .i64 rows[i].1) ∧ cs[i * 3 + 1]? = some (.int .i64 rows[i].2.1) ∧ cs[i * 3 + 2]? = some (.int .i64 rows[i].2.2)
theorem RAt.lt {w : World} {b : Nat} {T : TypeId} {rows : List H3} (h : RAt w b T rows) : b < w.heap.size := by
  obtain ⟨cs, hb, _⟩ := h
  exact hb.lt
theorem RAt.below {w w' : World} {b B : Nat} {T : TypeId} {rows : List H3} (h : RAt w b T rows) (hb : Below B w w') (hg : b < B) : RAt w' b T rows := by
  obtain ⟨cs, h1, h2⟩ := h
  exact ⟨cs, h1.below hb hg, h2⟩
theorem RAt.grown {w w' : World} {b : Nat} {T : TypeId} {rows : List H3} {row : Option Nat} (h : RAt w b T rows) (hb : w.grownBy w' row) (hg : some b ≠ row) : RAt w' b T rows := by
  obtain ⟨cs, h1, h2⟩ := h
  exact ⟨cs, h1.grown hb hg, h2⟩
theorem RAt.far {w : World} {b : Nat} {T : TypeId} {rows : List H3} (h : RAt w b T rows) {p : Addr} (hp : b ≠ p.block) (u : Value) : RAt (w.setCell p u) b T rows := by
  obtain ⟨cs, h1, h2⟩ := h
  exact ⟨cs, h1.far hp u, h2⟩
theorem RAt.drewN {w : World} {b : Nat} {T : TypeId} {rows : List H3} (h : RAt w b T rows) (n : Nat) : RAt (w.drewN n) b T rows := h
theorem RAt.cells {w : World} {b : Nat} {T : TypeId} {rows : List H3} (h : RAt w b T rows) {i : Nat} (hi : i < rows.length) : w.cell? ⟨b, i * 3, none⟩ = some (.int .i64 rows[i].1) ∧ w.cell? ⟨b, i * 3 + 1, none⟩ = some (.int .i64 rows[i].2.1) ∧ w.cell? ⟨b, i * 3 + 2, none⟩ = some (.int .i64 rows[i].2.2) := by
  obtain ⟨cs, h1, _, h3⟩ := h
  obtain ⟨g0, g1, g2⟩ := h3 i hi
  exact ⟨(h1.cell _).trans g0, (h1.cell _).trans g1, (h1.cell _).trans g2⟩
theorem RAt.free {w : World} {b : Nat} {T : TypeId} {rows : List H3} (h : RAt w b T rows) (i : Nat) : w.frozen? ⟨b, i, none⟩ = false := by
  obtain ⟨cs, h1, _⟩ := h
  exact h1.frozen i
theorem RAt.hat {w : World} {b : Nat} {T : TypeId} {rows : List H3} (h : RAt w b T rows) : HAt w (some ⟨b, 0, none⟩) rows := fun j hj => by
  obtain ⟨g0, g1, g2⟩ := h.cells hj
  exact ⟨b, 0, rfl, h.lt, by rw [Nat.zero_add]; exact g0, by rw [Nat.zero_add]; exact g1, by rw [Nat.zero_add]; exact g2⟩
theorem RAt.new {w : World} {b : Nat} {T : TypeId} {p : Nat} (h : Blk w b T (madeCells (Value.agg #[.int .i64 0, .int .i64 0, .int .i64 0]).cells (p * 3))) : RAt w b T (List.replicate p (0, 0, 0)) := by
  have hc : ∀ j, j < p * 3 → (madeCells (Value.agg #[.int .i64 0, .int .i64 0, .int .i64 0]).cells (p * 3))[j]? = some (.int .i64 0) := by
    intro j hj
    rw [Array.getElem?_eq_getElem (by rw [size_madeCells]; exact hj)]
    simp only [madeCells]
    have h3 : j % 3 = 0 ∨ j % 3 = 1 ∨ j % 3 = 2 := by omega
    rcases h3 with e | e | e <;> simp [Value.cells, e]
  refine ⟨_, h, by rw [size_madeCells, List.length_replicate], fun i hi => ?_⟩
  rw [List.length_replicate] at hi
  simp only [List.getElem_replicate]
  exact ⟨hc _ (by omega), hc _ (by omega), hc _ (by omega)⟩
theorem RAt.set {w : World} {b : Nat} {T : TypeId} {rows : List H3} (h : RAt w b T rows) {c i : Nat} (hc : c < 3) (hi : i < rows.length) (v : Int) : RAt (w.setCell ⟨b, i * 3 + c, none⟩ (.int .i64 v)) b T (rows.set i (setC c v rows[i])) := by
  obtain ⟨cs, h1, h2, h3⟩ := h
  refine ⟨_, h1.set_ (i * 3 + c) (.int .i64 v), by rw [Array.size_setIfInBounds, List.length_set]; exact h2, fun j hj => ?_⟩
  rw [List.length_set] at hj
  obtain ⟨g0, g1, g2⟩ := h3 j hj
  by_cases e : i = j
  · subst e
    rw [List.getElem_set_self]
    match c, hc with
    | 0, _ =>
      refine ⟨?_, ?_, ?_⟩
      · rw [Nat.add_zero, Array.getElem?_setIfInBounds_self_of_lt (by omega)]; rfl
      · rw [Array.getElem?_setIfInBounds_ne (by omega)]; exact g1
      · rw [Array.getElem?_setIfInBounds_ne (by omega)]; exact g2
    | 1, _ =>
      refine ⟨?_, ?_, ?_⟩
      · rw [Array.getElem?_setIfInBounds_ne (by omega)]; exact g0
      · rw [Array.getElem?_setIfInBounds_self_of_lt (by omega)]; rfl
      · rw [Array.getElem?_setIfInBounds_ne (by omega)]; exact g2
    | 2, _ =>
      refine ⟨?_, ?_, ?_⟩
      · rw [Array.getElem?_setIfInBounds_ne (by omega)]; exact g0
      · rw [Array.getElem?_setIfInBounds_ne (by omega)]; exact g1
      · rw [Array.getElem?_setIfInBounds_self_of_lt (by omega)]; rfl
  · rw [List.getElem_set_ne e]
    refine ⟨?_, ?_, ?_⟩
    · rw [Array.getElem?_setIfInBounds_ne (by omega)]; exact g0
    · rw [Array.getElem?_setIfInBounds_ne (by omega)]; exact g1
    · rw [Array.getElem?_setIfInBounds_ne (by omega)]; exact g2

/-! ### What decoded holds. -/
def Dec (N : Nat) (w0 : World) (s : ByteArray) (m : Nat) (r : RS) (A W : H3) (w : World) : Prop :=
  Below N w0 w ∧ Rd 92 w N s r.1 r.2 ∧ r.1 ≤ 8 * s.size ∧ Blk w (N + 1) 73 #[.pointer (some ⟨N, 0, none⟩)] ∧ Blk w (N + 2) 30 #[takeV (N + 1)] ∧ A3 w m A.1 A.2.1 A.2.2 ∧ A3 w (m + 1) W.1 W.2.1 W.2.2 ∧ N + 2 < m ∧ m + 1 < w.heap.size
theorem A3.grown {w w' : World} {b : Nat} {x y z : Int} {row : Option Nat} (h : A3 w b x y z) (hb : w.grownBy w' row) (hg : some b ≠ row) : A3 w' b x y z := Blk.grown h hb hg
theorem ne_some {a b : Nat} (h : a ≠ b) : (some a : Option Nat) ≠ some b := fun e => h (by injection e)
theorem Dec.now {N : Nat} {w0 w w' : World} {s : ByteArray} {m : Nat} {r r' : RS} {A W : H3} (d : Dec N w0 s m r A W w) (h : NowS w N s r' w') (hr : r'.1 ≤ 8 * s.size) : Dec N w0 s m r' A W w' := by
  obtain ⟨h1, h2, h3, h4, h5, h6, h7, h8, h9⟩ := d
  have hs := h.1.size
  exact ⟨h1.grown h.1 (by omega) (fun k e => by injection e with e; omega), h.2, hr, h4.grown h.1 (ne_some (by omega)), h5.grown h.1 (ne_some (by omega)), h6.grown h.1 (ne_some (by omega)), h7.grown h.1 (ne_some (by omega)), h8, by omega⟩
theorem Dec.set_a {N : Nat} {w0 w : World} {s : ByteArray} {m : Nat} {r : RS} {A W : H3} (d : Dec N w0 s m r A W w) {c : Nat} (hc : c < 3) (v : Int) : Dec N w0 s m r (setC c v A) W (w.setCell ⟨m, c, none⟩ (.int .i64 v)) := by
  obtain ⟨h1, h2, h3, h4, h5, h6, h7, h8, h9⟩ := d
  refine ⟨h1.setCell (by show N ≤ m; omega) _, Blk.far h2 (by show N ≠ m; omega) _, h3, h4.far (by show N + 1 ≠ m; omega) _, h5.far (by show N + 2 ≠ m; omega) _, ?_, h7.far_ (by show m + 1 ≠ m; omega) _, h8, by simpa [World.setCell] using h9⟩
  match c, hc with
  | 0, _ => exact h6.s0 v
  | 1, _ => exact h6.s1 v
  | 2, _ => exact h6.s2 v
theorem Dec.set_w {N : Nat} {w0 w : World} {s : ByteArray} {m : Nat} {r : RS} {A W : H3} (d : Dec N w0 s m r A W w) {c : Nat} (hc : c < 3) (v : Int) : Dec N w0 s m r A (setC c v W) (w.setCell ⟨m + 1, c, none⟩ (.int .i64 v)) := by
  obtain ⟨h1, h2, h3, h4, h5, h6, h7, h8, h9⟩ := d
  refine ⟨h1.setCell (by show N ≤ m + 1; omega) _, Blk.far h2 (by show N ≠ m + 1; omega) _, h3, h4.far (by show N + 1 ≠ m + 1; omega) _, h5.far (by show N + 2 ≠ m + 1; omega) _, h6.far_ (by show m ≠ m + 1; omega) _, ?_, h8, by simpa [World.setCell] using h9⟩
  match c, hc with
  | 0, _ => exact h7.s0 v
  | 1, _ => exact h7.s1 v
  | 2, _ => exact h7.s2 v
theorem Dec.far {N : Nat} {w0 w : World} {s : ByteArray} {m : Nat} {r : RS} {A W : H3} (d : Dec N w0 s m r A W w) {p : Addr} (hp : m + 1 < p.block) (u : Value) : Dec N w0 s m r A W (w.setCell p u) := by
  obtain ⟨h1, h2, h3, h4, h5, h6, h7, h8, h9⟩ := d
  exact ⟨h1.setCell (by omega) _, Blk.far h2 (by omega) _, h3, h4.far (by omega) _, h5.far (by omega) _, h6.far_ (by omega) _, h7.far_ (by omega) _, h8, by simpa [World.setCell] using h9⟩
theorem Dec.drewN {N : Nat} {w0 w : World} {s : ByteArray} {m : Nat} {r : RS} {A W : H3} (d : Dec N w0 s m r A W w) (n : Nat) : Dec N w0 s m r A W (w.drewN n) := by
  obtain ⟨h1, h2, h3, h4, h5, h6, h7, h8, h9⟩ := d
  exact ⟨⟨h1.os, h1.tape, h1.output, h1.size, h1.block⟩, h2, h3, h4, h5, h6, h7, h8, h9⟩
theorem Dec.more {N : Nat} {w0 w w' : World} {s : ByteArray} {m : Nat} {r : RS} {A W : H3} (d : Dec N w0 s m r A W w) (hb : Below w.heap.size w w') : Dec N w0 s m r A W w' := by
  obtain ⟨h1, h2, h3, h4, h5, h6, h7, h8, h9⟩ := d
  have hs := hb.size
  exact ⟨h1.trans (hb.mono (by omega)), Blk.below h2 hb (by omega), h3, h4.below hb (by omega), h5.below hb (by omega), h6.below hb (by omega), h7.below hb (by omega), h8, by omega⟩
/-- A long number, where there is one. -/
theorem dec_long {N : Nat} {w0 w : World} {s : ByteArray} {m : Nat} {r r' : RS} {A W : H3} {v : Int} (d : Dec N w0 s m r A W w) (hs : s.size ≤ 1000000000) (hk : longR s r = some (v, r')) :
    Calls Try.prog 53 #[.pointer (some ⟨N + 2, 0, none⟩)] w fun e w' => e = .returned (.int .i64 v) ∧ Dec N w0 s m r' A W w' ∧ NowS w N s r' w' := by
  refine (long_ok N (N + 1) (N + 2) s r r' v w d.2.2.2.1 d.2.2.2.2.1 (by omega) (by omega) d.2.1 d.2.2.1 hs hk).mono ?_
  rintro e w' ⟨rfl, h⟩
  exact ⟨rfl, d.now h (longR_in hk d.2.2.1).2.2, h⟩
theorem dec_long_no {N : Nat} {w0 w : World} {s : ByteArray} {m : Nat} {r : RS} {A W : H3} (d : Dec N w0 s m r A W w) (hs : s.size ≤ 1000000000) (hk : longR s r = none) :
    Calls Try.prog 53 #[.pointer (some ⟨N + 2, 0, none⟩)] w fun e w' => (∃ x, x ≠ 0 ∧ e = gUp x) ∧ Below N w0 w' := by
  refine (long_no N (N + 1) (N + 2) s r w d.2.2.2.1 d.2.2.2.2.1 (by omega) (by omega) d.2.1 d.2.2.1 hs hk).mono ?_
  rintro e w' ⟨hx, r1, h⟩
  obtain ⟨h1, h2, h3, h4, h5, h6, h7, h8, h9⟩ := d
  exact ⟨hx, h1.grown h.1 (by omega) (fun k e => by injection e with e; omega)⟩
theorem dec_take {N : Nat} {w0 w : World} {s : ByteArray} {m : Nat} {r : RS} {A W : H3} {n : Int} (d : Dec N w0 s m r A W w) (hs : s.size ≤ 1000000000) (hk : tkE s r n = 0) :
    Calls Try.prog 50 #[.int .i64 n, .pointer (some ⟨N + 1, 0, none⟩)] w fun e w' => e = .returned (.int .i64 (tkV s r n)) ∧ Dec N w0 s m (tkS s r n) A W w' ∧ NowS w N s (tkS s r n) w' := by
  refine (take_ok N (N + 1) s r n w d.2.2.2.1 d.2.1 d.2.2.1 hs hk).mono ?_
  rintro e w' ⟨rfl, h⟩
  exact ⟨rfl, d.now h (tkS_le d.2.2.1), h⟩
theorem dec_take_no {N : Nat} {w0 w : World} {s : ByteArray} {m : Nat} {r : RS} {A W : H3} {n : Int} (d : Dec N w0 s m r A W w) (hs : s.size ≤ 1000000000) (hk : tkE s r n ≠ 0) :
    Calls Try.prog 50 #[.int .i64 n, .pointer (some ⟨N + 1, 0, none⟩)] w fun e w' => (∃ x, x ≠ 0 ∧ e = gUp x) ∧ Below N w0 w' := by
  refine (take_no N (N + 1) s r n w d.2.2.2.1 d.2.1 d.2.2.1 hs hk).mono ?_
  rintro e w' ⟨hx, h⟩
  obtain ⟨h1, h2, h3, h4, h5, h6, h7, h8, h9⟩ := d
  exact ⟨hx, h1.grown h.1 (by omega) (fun k e => by injection e with e; omega)⟩
theorem dec_align {N : Nat} {w0 w : World} {s : ByteArray} {m : Nat} {r : RS} {A W : H3} (d : Dec N w0 s m r A W w) (hs : s.size ≤ 1000000000) :
    Calls Try.prog 55 #[.pointer (some ⟨N, 0, none⟩)] w fun e w' => e = .returned (.tuple #[]) ∧ Dec N w0 s m (alg r.1, 0) A W w' ∧ NowS w N s (alg r.1, 0) w' := by
  have := d.2.2.1
  refine (ralign_any N s r.1 r.2 w d.2.1 (by omega)).mono ?_
  rintro e w' ⟨rfl, h⟩
  exact ⟨rfl, d.now (r' := (alg r.1, 0)) h (alg_le this), h⟩
end Go.Proofs.Ytkcnhdponcbjaaa
