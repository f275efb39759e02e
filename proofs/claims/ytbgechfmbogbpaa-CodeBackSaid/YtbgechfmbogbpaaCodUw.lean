/-
  code's chosen: the world behind a round that takes coins.
-/
import Derived.Test.YtbgechfmbogbpaaCodS
import Derived.Test.YtbgechfmbogbpaaCodH
import Derived.Test.YtbgechfmbogbpaaCodVt
import Derived.Deep.AppendLies
namespace Go.Proofs.Ytbgechfmbogbpaa
open Go.RowKit Cod Go.Shelf

/-- The boxes of a round: the numbers, the coins to take, Backward's rows. -/
def RoundAt (X : Nat) (bv : Value) (w : World) (nums : List Int) (t k : Nat) (W : World) : Prop :=
  ((∃ v, Boxed W X 22 v ∧ W.ownsRow X 3 1 v k (iC nums) ∧ some (X + 1) ≠ v.ownBlock) ∧ (Boxed W (X + 1) 3 (.int .i64 (t : Int)) ∧ Boxed W (X + 2) 82 bv)) ∧ Below X w W
theorem roundAt_own (X : Nat) (bv : Value) (w : World) (nums : Nat → List Int) (t : Nat → Nat) (hX : X ≤ w.heap.size) (B : Nat) (hB : X ≤ B) : OwnFrom B (fun (k : Nat) W => RoundAt X bv w (nums k) (t k) k W) :=
  OwnFrom.and (OwnFrom.and (Own.from (holdsRow_own X X 22 3 1 (fun k : Nat => k) (fun k : Nat => iC (nums k)) (fun _ v => some (X + 1) ≠ v.ownBlock)) _)
    (OwnFrom.and (Own.from (boxed_own (X + 1) 3 (fun k : Nat => .int .i64 (t k : Int))) _) (Own.from (boxed_own (X + 2) 82 (fun _ : Nat => bv)) _))) (ownFrom_below hX hB)

theorem round_world {X k t : Nat} {d : Int} {nums : List Int} {bv v : Value} {w W w1 : World} (t' : Nat) (hv : Boxed W X 22 v) (hrow : W.ownsRow X 3 1 v k (iC nums)) (c2 : Boxed W (X + 1) 3 (.int .i64 (t : Int)))
    (c3 : Boxed W (X + 2) 82 bv) (hB : Below X w W) (hb : Below W.heap.size W.drew w1) (hX : X + 3 ≤ W.heap.size) (hk : k ≤ 100) (hne2 : some (X + 1) ≠ v.ownBlock) :
    ∃ (g2 cap2 : Nat) (w2 : World), Sem.run Try.prog (Builtin.append_ #[22, 22] 22 #[v, .slice (some ⟨w1.heap.size, 0, none⟩) 1 1]) (w1.alloc (.cells #[.int .i64 d] 3)) = .ok (.slice (some ⟨g2, 0, none⟩) (k + 1) cap2) w2 ∧
      w1.cell? ⟨X, 0, none⟩ = some v ∧ w1.cell? ⟨X + 1, 0, none⟩ = some (.int .i64 (t : Int)) ∧ w2.cell? ⟨X, 0, none⟩ = some v ∧ w2.frozen? ⟨X, 0, none⟩ = false ∧
      (w2.setCell ⟨X, 0, none⟩ (.slice (some ⟨g2, 0, none⟩) (k + 1) cap2)).cell? ⟨X + 1, 0, none⟩ = some (.int .i64 (t : Int)) ∧ (w2.setCell ⟨X, 0, none⟩ (.slice (some ⟨g2, 0, none⟩) (k + 1) cap2)).frozen? ⟨X + 1, 0, none⟩ = false ∧
      KeepsFrom (X + 3) W ((w2.setCell ⟨X, 0, none⟩ (.slice (some ⟨g2, 0, none⟩) (k + 1) cap2)).setCell ⟨X + 1, 0, none⟩ (.int .i64 (t' : Int))) ∧ KeptB (fun b => b < X ∨ b = X + 2) W ((w2.setCell ⟨X, 0, none⟩ (.slice (some ⟨g2, 0, none⟩) (k + 1) cap2)).setCell ⟨X + 1, 0, none⟩ (.int .i64 (t' : Int))) ∧
      RoundAt X bv w (nums ++ [d]) t' (k + 1) ((w2.setCell ⟨X, 0, none⟩ (.slice (some ⟨g2, 0, none⟩) (k + 1) cap2)).setCell ⟨X + 1, 0, none⟩ (.int .i64 (t' : Int))) := by
  obtain ⟨j0, hj, hy0, hy1, hy2⟩ := info_parts infoI
  have hg : W.grownBy w1 none := ⟨hb.os, hb.tape, hb.output, hb.size, fun k hk _ => hb.block k hk⟩
  have hs1 : W.heap.size ≤ w1.heap.size := hb.size
  have a1 : Boxed w1 X 22 v := hv.kept hg (by simp)
  have a2 : Boxed w1 (X + 1) 3 (.int .i64 (t : Int)) := c2.kept hg (by simp)
  have a3 : Boxed w1 (X + 2) 82 bv := c3.kept hg (by simp)
  have ar : w1.ownsRow X 3 1 v k (iC nums) := hrow.kept hg (by
    rcases hrow.2 with ⟨h0, _⟩ | ⟨g, cap, cur, hvv, _⟩
    · exact .inl (by rw [h0]; rfl)
    · right; rw [hvv]; intro e; cases e)
  obtain ⟨g2, cap2, w2, hrun, hown2, hgrow2, hat, hlt⟩ := run_append_lies (P := Try.prog) (w := w1.alloc (.cells #[.int .i64 d] 3)) 22 22 X 3 j0 (.int .i64 0) 1 8 Try.underlying22 hj hy0 hy1 hy2 rfl (by decide) v k (iC nums) (ar.alloc _) ⟨w1.heap.size, 0, none⟩ 1 1 [.int .i64 d] rfl (World.news_of_block (heap_alloc_new w1 _)) (by simp [Value.oneCell']) (by decide) (by unfold maxLen; omega) (by omega) (by simp; omega) _ rfl
  obtain ⟨hv1, hv2, hr2, hk2, hb2⟩ := a1.appended (by decide) ar (by omega) (Nat.le_refl _) hown2 hgrow2
  have hne3 : some (X + 2) ≠ v.ownBlock := a3.not_row (by decide) ar
  have hne22 : X + 1 ≠ X := by omega
  have bx : Boxed (w1.alloc (.cells #[.int .i64 d] 3)) (X + 1) 3 (.int .i64 (t : Int)) := a2.alloc _
  have hnew : some (X + 1) ≠ (Value.slice (some ⟨g2, 0, none⟩) (k + 1) cap2).ownBlock := by
    rcases hat with h | h
    · rw [h] at hne2; exact hne2
    · rw [World.size_alloc] at h
      intro e
      injection e with e
      have e' : X + 1 = g2 := e
      omega
  have e2 : Boxed (w2.setCell ⟨X, 0, none⟩ (.slice (some ⟨g2, 0, none⟩) (k + 1) cap2)) (X + 1) 3 (.int .i64 (t : Int)) := (bx.kept hgrow2 hne2).other hne22 _
  have e3 : Boxed (w2.setCell ⟨X, 0, none⟩ (.slice (some ⟨g2, 0, none⟩) (k + 1) cap2)) (X + 2) 82 bv := ((a3.alloc _).kept hgrow2 hne3).other (by omega) _
  refine ⟨g2, cap2, w2, hrun, a1.cell, a2.cell, hv1.cell, hv1.frozen, e2.cell, e2.frozen, ?_, ?_, ?_⟩
  · exact (((KeepsOthers.drew W).trans ((KeepsOthers.of_grownBy (W := W.drew) (row := none) ⟨hb.os, hb.tape, hb.output, hb.size, fun k hk _ => hb.block k hk⟩ (fun j o e => by cases e)).trans hk2)).trans (KeepsOthers.setCell _ _ _)).from _
  · rintro b (hb' | rfl)
    · rw [Below.heap_setCell _ _ _ b (by show b ≠ X + 1; omega)]
      exact (hb2.block b hb').trans (hb.block b (by omega))
    · exact (show _ = _ from e3.other (by omega) _).trans (show _ = _ from c3).symm
  · refine ⟨⟨⟨_, hv2.other (by omega) _, ?_, hnew⟩, e2.set _, e3.other (by omega) _⟩, ?_⟩
    · rw [iC_snoc]
      exact hr2.kept (grownBy_setCell' _ _ _) (Or.inr hnew.symm)
    · exact (hB.trans ((Below.drew (Below.refl _ _)).trans ((hb.mono (by omega)).trans hb2))).grown (grownBy_setCell' _ _ _) (by have := (e2.lt); omega) (fun k hk => by injection hk with hk; omega)
end Go.Proofs.Ytbgechfmbogbpaa
