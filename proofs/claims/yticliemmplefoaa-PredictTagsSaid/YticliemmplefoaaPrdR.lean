/-
  predict's recoded: what its walk over rows leans on.
-/
import Derived.Test.YticliemmplefoaaPrdP
import Derived.RangeFuncRecord
import Derived.Sort.CutIn
namespace Go.Proofs.Yticliemmplefoaa
open Go.RowKit Oct Prd Go.Shelf
attribute [local go_sem] Oper.semAt_some

/-- A piece that can't panic is walked without a word on panics. -/
theorem wpIn_calm {F : Fence} {n : Nat} {P : Program} {K : Act → World → Prop} {Q : Exit → Act → World → Prop} {c : Code} {a : Act} {w : World} (h : c.wpIn F n P (Exit.then K (fun _ _ _ => False)) a w) : c.wpIn F n P (Exit.then K Q) a w :=
  wpIn_mono h (fun e a w h => by
    cases e with
    | normal => exact h
    | ret => exact h.elim
    | exit id => exact h.elim
    | goto t => exact h.elim
    | panic c => exact h.elim
    | outgrown => exact h.elim)
theorem wpAt_block {P : Program} {n : Nat} {fid : FuncId} {id : Nat} {c : Code} {Q : Exit → Act → World → Prop} {a : Act} {w : World} (hx : ∀ i a w, ¬ Q (.exit i) a w) (hg : ∀ l a w, ¬ Q (.goto l) a w) (h : WpAt P n fid c Q a w) : WpAt P n fid (Code.block id c) Q a w := by
  intro b k cs hr hf
  have first : StepsIn (Machine.fenced P Fence.wide) P (lone (b.atR a (.code (.block id c) :: k)) cs w) (lone (b.atR a (.code c :: .inBlock id :: k)) cs w) := .one (fenced_wide _ _) stepR_block
  obtain ⟨e, a1, w1, q, go⟩ := h b (.inBlock id :: k) cs hr hf
  cases e with
  | normal => exact ⟨.normal, a1, w1, q, StepsIn.trans first (StepsIn.trans go (.one (fenced_wide _ _) stepR_inBlock))⟩
  | exit i => exact absurd q (hx _ _ _)
  | goto l => exact absurd q (hg _ _ _)
  | ret => exact ⟨.ret, a1, w1, q, .of_steps (e := .ret) first go⟩
  | panic ch => exact ⟨.panic ch, a1, w1, q, .of_steps (e := .panic ch) first go⟩
  | outgrown => exact ⟨.outgrown, a1, w1, q, .of_steps (b := b) (k := k) (cs := cs) (e := .outgrown) first go⟩
theorem upOn_ok (w : World) : Calls Try.prog 24 #[.int .i64 0] w fun e w' => e = .returned (.tuple #[]) ∧ w = w' := by
  go_enter Try.func24, Try.ntmps24
  go_wp2_with fail
  go_end0
  exact ⟨rfl, rfl⟩

theorem range_at2 {P : Program} {n : Nat} {fid : FuncId} {g : Operand} {ps : Array Tmp} {assign body : Code} {Q : Exit → Act → World → Prop} {a : Act} {w : World} {gf : Nat} {lb : Array Value}
    (hg : a.eval g = .func (.func gf) #[] lb) (eg : ∀ args w, (callFunc gf args).run P w = .ok (.enter gf args) w)
    (h : ∀ rc, recOf fid a.tmps ps assign body w.heap.size .ready = rc → CallsIn Fence.wide (n - 1) P gf (#[.func (.yield (w.heap.size + 1)) #[] #[]] ++ lb) ((w.alloc (.deferred (some []))).alloc (.loop rc)) fun e w3 =>
      (∃ v, e = .returned v ∧ w3.heap[w.heap.size + 1]? = some (.loop rc) ∧
        ∀ o, Q .normal { a with defers := { target := .collected w.heap.size, args := #[] } :: a.defers } (w3.putObj (w.heap.size + 1) o)) ∨
      (∃ chain, e = .panicked chain ∧ Q (.panic chain) { a with defers := { target := .collected w.heap.size, args := #[] } :: a.defers } w3)) :
    WpAt P n fid (Code.rangeFunc g ps assign body) Q a w := range_at hg eg (h _ rfl)
theorem conv_at2 (P : ByteArray) (W : World) : ∃ c fr, P.size ≤ c ∧ Sem.run Try.prog (convert 9 42 (.string P)) W = .ok (.slice (some ⟨W.heap.size, 0, none⟩) P.size c) (W.drew.alloc (.cells (bytesRow P c) 5 fr)) :=
  ⟨_, _, grownCap_ge W P.size 0 5, run_bytes_of_string (P := Try.prog) W 9 42 5 P Try.underlying9 Try.underlying42 Try.underlying5⟩
/-- A chunk of the data. -/
theorem row_chunk {W : World} {g cap q m k : Nat} {s : ByteArray} {l : List UInt8} {e : TypeId} {fr : Nat × Nat} (h : W.heap[g]? = some (.cells (bytesRow s cap) e fr)) (hl : s.data.toList = l) (hn : l.length = q * m) (hk : k < m) : IsRow W (.slice (some ⟨g, q * k, none⟩) q q) (rowR q l k) := by
  obtain ⟨A, C, e1, h2⟩ := IsRow.bytes h
  rw [hl] at e1 h2
  injection e1 with e1 e3 e4
  have hlen := rowR_len hn hk
  refine ⟨some ⟨g, q * k, none⟩, q, by rw [hlen], fun j hj => ⟨g, q * k, rfl, ?_⟩⟩
  have hkm : q * (k + 1) ≤ q * m := Nat.mul_le_mul_left q hk
  rw [Nat.mul_add, Nat.mul_one] at hkm
  have hj2 : q * k + j < l.length := by omega
  obtain ⟨b, o, h3, h4⟩ := h2 (q * k + j) hj2
  rw [← e1] at h3
  injection h3 with h3
  injection h3 with h5 h6
  subst h5
  subst h6
  rw [Nat.zero_add] at h4
  rw [h4]
  have : (rowR q l k)[j] = l[q * k + j] := by simp [rowR, List.getElem_take, List.getElem_drop]
  rw [this]
theorem yield_pan2 {F : Fence} {n : Nat} {P : Program} {l D : Nat} {f : FuncId} {fn : Func} {tmps : Array Value} {ps : Array Tmp} {assign body : Code} {args : Array Value} {W : World} {R : Ending → World → Prop} (hF : F.fn f) (hfn : P.funcs[f]? = some fn)
    (hl : W.heap[l]? = some (.loop (recOf f tmps ps assign body D .ready))) (hs : args.size = ps.size)
    (h : assign.wpIn (F.inRound l) n P (Exit.then (fun a1 w1 => w1 = W ∧ body.wpIn (F.inRound l) n P (fun e a w => match e with
      | .normal => w.heap[l]? = some (.loop (recOf f tmps ps assign body D .busy)) ∧ R (.returned (.bool true)) (w.putObj l (.loop (recOf f tmps ps assign body D .ready)))
      | .panic chain => a.defers = [] ∧ R (.panicked chain) w
      | _ => False) a1 (W.putObj l (.loop (recOf f tmps ps assign body D .busy)))) (fun _ _ _ => False)) { tmps := (ps.zip args).foldl (fun t (p, v) => t.setIfInBounds p v) tmps, defers := [] } W) : YieldAt F n P l args W R := by
  refine ⟨f, _, assign, body, run_yield hl hs, round_pan hF hfn (wpIn_mono h ?_)⟩
  intro e a w hq
  cases e with
  | normal =>
    obtain ⟨e1, hb⟩ := hq
    subst e1
    refine ⟨_, run_beginRound hl rfl, wpIn_mono hb ?_⟩
    intro e a w hq
    cases e with
    | normal => exact ⟨_, _, run_endRound none hq.1, hq.2⟩
    | panic chain => exact hq
    | ret => exact hq.elim
    | exit id => exact hq.elim
    | goto t => exact hq.elim
    | outgrown => exact hq.elim
  | ret => exact hq.elim
  | exit id => exact hq.elim
  | goto t => exact hq.elim
  | panic chain => exact hq.elim
  | outgrown => exact hq.elim
theorem yield_pan3 {F : Fence} {n : Nat} {P : Program} {l D : Nat} {f : FuncId} {fn : Func} {tmps : Array Value} {ps : Array Tmp} {assign body : Code} {args : Array Value} {W : World} {R : Ending → World → Prop} {rc : Loop} (hF : F.fn f) (hfn : P.funcs[f]? = some fn)
    (hrc : recOf f tmps ps assign body D .ready = rc) (hl : W.heap[l]? = some (.loop rc)) (hs : args.size = ps.size)
    (h : ∀ rb, assign.wpIn (F.inRound l) n P (Exit.then (fun a1 w1 => w1 = W ∧ body.wpIn (F.inRound l) n P (fun e a w => match e with
      | .normal => w.heap[l]? = some (.loop rb) ∧ R (.returned (.bool true)) (w.putObj l (.loop rc))
      | .panic chain => a.defers = [] ∧ R (.panicked chain) w
      | _ => False) a1 (W.putObj l (.loop rb))) (fun _ _ _ => False)) { tmps := (ps.zip args).foldl (fun t (p, v) => t.setIfInBounds p v) tmps, defers := [] } W) : YieldAt F n P l args W R := by
  subst hrc
  exact yield_pan2 hF hfn hl hs (h _)
theorem alloc_at (w : World) (o : Obj) : (w.alloc o).heap[w.heap.size]? = some o := by
  show (w.heap.push o)[w.heap.size]? = _
  simp
theorem put_at {w : World} {L : Nat} {x : Obj} (h : w.heap[L]? = some x) (o : Obj) : (w.putObj L o).heap[L]? = some o := by
  have hL : L < w.heap.size := by
    rcases Nat.lt_or_ge L w.heap.size with h1 | h1
    · exact h1
    · rw [Array.getElem?_eq_none h1] at h
      cases h
  show (w.heap.setIfInBounds L o)[L]? = _
  simp [hL]
theorem two_put {w W : World} {bn X : Nat} {o : Obj} (h : Two w W bn none) (hX : w.heap.size ≤ X) : Two w (W.putObj X o) bn none :=
  ⟨h.os, h.tape, h.output, by simpa using h.size, fun i hi h1 h2 => (World.putObj_heap_other (by omega)).trans (h.block i hi h1 h2)⟩
theorem RecSt.start {w wc : World} {F : FuncId} {caps : Array Value} {bp ba bn pr co cl q m z cap : Nat} {s : ByteArray} {M0 : Array Value} {fr : Nat × Nat} (o : Obj) (hb : Below w.heap.size w wc) (hC : Coder w bp ba bn pr co cl (.slice none 0 0) []) (hne : bp ≠ bn ∧ ba ≠ bn) (hfn : Blk wc (w.heap.size + 1) 37 #[.func (.func F) #[] caps]) (hM : M0.size = z) (hz : z ≤ 1000000) (hs : s.size = q * m) :
    RecSt w (((((((wc.alloc (.cells M0 5)).alloc (.cells #[.slice (some ⟨wc.heap.size, 0, none⟩) 0 z] 42)).drew.alloc (.cells (bytesRow s cap) 5 fr)).alloc (.cells #[.slice (some ⟨wc.heap.size + 2, 0, none⟩) s.size cap] 42)).alloc (.cells #[.int .i64 (q : Int)] 3)).alloc (.deferred (some []))).alloc o)
      F caps bp ba bn pr co cl q m wc.heap.size cap s 0 (.slice none 0 0) (.slice (some ⟨wc.heap.size, 0, none⟩) 0 z) [] [] := by
  obtain ⟨N, hN⟩ : ∃ N, w.heap.size = N := ⟨_, rfl⟩
  obtain ⟨X, hX⟩ : ∃ X, wc.heap.size = X := ⟨_, rfl⟩
  have hsz : N + 1 < X := by rw [← hN, ← hX]; exact hfn.lt
  rw [hX]
  obtain ⟨w1, h1⟩ : ∃ w1, wc.alloc (.cells M0 5) = w1 := ⟨_, rfl⟩
  have s1 : w1.heap.size = X + 1 := by rw [← h1, World.size_alloc, hX]
  obtain ⟨w2, h2⟩ : ∃ w2, w1.alloc (.cells #[.slice (some ⟨X, 0, none⟩) 0 z] 42) = w2 := ⟨_, rfl⟩
  have s2 : w2.heap.size = X + 2 := by rw [← h2, World.size_alloc, s1]
  obtain ⟨w3, h3⟩ : ∃ w3, w2.drew.alloc (.cells (bytesRow s cap) 5 fr) = w3 := ⟨_, rfl⟩
  have s3 : w3.heap.size = X + 3 := by
    rw [← h3, World.size_alloc]
    show w2.heap.size + 1 = _
    rw [s2]
  obtain ⟨w4, h4⟩ : ∃ w4, w3.alloc (.cells #[.slice (some ⟨X + 2, 0, none⟩) s.size cap] 42) = w4 := ⟨_, rfl⟩
  have s4 : w4.heap.size = X + 4 := by rw [← h4, World.size_alloc, s3]
  obtain ⟨w5, h5⟩ : ∃ w5, w4.alloc (.cells #[.int .i64 (q : Int)] 3) = w5 := ⟨_, rfl⟩
  have s5 : w5.heap.size = X + 5 := by rw [← h5, World.size_alloc, s4]
  obtain ⟨w6, h6⟩ : ∃ w6, w5.alloc (.deferred (some [])) = w6 := ⟨_, rfl⟩
  have s6 : w6.heap.size = X + 6 := by rw [← h6, World.size_alloc, s5]
  obtain ⟨w7, h7⟩ : ∃ w7, w6.alloc o = w7 := ⟨_, rfl⟩
  have s7 : w7.heap.size = X + 7 := by rw [← h7, World.size_alloc, s6]
  have b6 : Below (X + 6) w6 w7 := by rw [← h7, ← s6]; exact (Below.refl _ w6).alloc (Nat.le_refl _) _
  have b5 : Below (X + 5) w5 w7 := (show Below (X + 5) w5 w6 by rw [← h6, ← s5]; exact (Below.refl _ w5).alloc (Nat.le_refl _) _).trans (b6.mono (by omega))
  have b4 : Below (X + 4) w4 w7 := (show Below (X + 4) w4 w5 by rw [← h5, ← s4]; exact (Below.refl _ w4).alloc (Nat.le_refl _) _).trans (b5.mono (by omega))
  have b3 : Below (X + 3) w3 w7 := (show Below (X + 3) w3 w4 by rw [← h4, ← s3]; exact (Below.refl _ w3).alloc (Nat.le_refl _) _).trans (b4.mono (by omega))
  have b2 : Below (X + 2) w2 w7 := (show Below (X + 2) w2 w3 by rw [← h3, ← s2]; exact ((Below.refl _ w2).drew).alloc (Nat.le_refl _) _).trans (b3.mono (by omega))
  have b1 : Below (X + 1) w1 w7 := (show Below (X + 1) w1 w2 by rw [← h2, ← s1]; exact (Below.refl _ w1).alloc (Nat.le_refl _) _).trans (b2.mono (by omega))
  have b0 : Below X wc w7 := (show Below X wc w1 by rw [← h1, ← hX]; exact (Below.refl _ wc).alloc (Nat.le_refl _) _).trans (b1.mono (by omega))
  have bw : Below w.heap.size w w7 := hb.trans (b0.mono (by omega))
  rw [h1, h2, h3, h4, h5, h6, h7]
  refine ⟨hC.below bw, hfn.below (by rw [hX]; exact b0) hfn.lt, ?_, ?_, ?_, ⟨fr, ?_⟩, ?_, ?_, ?_, two_below bw bn none, by omega, ⟨hC.parms.lt, hC.fils.lt, hC.box.lt, hne.1, hne.2, by omega⟩, by simp⟩
  · have : Blk w2 (X + 1) 42 #[.slice (some ⟨X, 0, none⟩) 0 z] := by rw [← h2, ← s1]; exact Blk.new w1 _ _
    exact this.below (by rw [s2]; exact b2) this.lt
  · refine ⟨by simp [bC], .inr ⟨X, z, M0, rfl, Nat.le_refl _, ?_, by simp, by unfold maxLen; omega, by omega, by simp [bC]⟩⟩
    have : Blk w1 X 5 M0 := by rw [← h1, ← hX]; exact Blk.new wc _ _
    exact this.below (by rw [s1]; exact b1) this.lt
  · intro g hg
    injection hg with hg
    exact .inl hg.symm
  · have : w3.heap[X + 2]? = some (.cells (bytesRow s cap) 5 fr) := by
      rw [← h3, ← s2]
      show (w2.heap.push _)[w2.heap.size]? = _
      simp
    rw [b3.block (X + 2) (by omega), this]
  · have : Blk w4 (X + 3) 42 #[.slice (some ⟨X + 2, 0, none⟩) (q * m) cap] := by rw [← h4, ← s3, ← hs]; exact Blk.new w3 _ _
    exact this.below (by rw [s4]; exact b4) this.lt
  · have : Blk w5 (X + 4) 3 #[.int .i64 (q : Int)] := by rw [← h5, ← s4]; exact Blk.new w4 _ _
    exact this.below (by rw [s5]; exact b5) this.lt
  · have : w6.heap[X + 5]? = some (.deferred (some [])) := by
      rw [← h6, ← s5]
      show (w5.heap.push _)[w5.heap.size]? = _
      simp
    rw [b6.block (X + 5) (by omega), this]
end Go.Proofs.Yticliemmplefoaa
