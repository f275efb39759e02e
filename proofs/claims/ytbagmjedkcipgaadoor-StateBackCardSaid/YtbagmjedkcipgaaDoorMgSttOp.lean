/-
  The operands of an operator that came in, as the operators of state read them.
-/
import Derived.Test.YtbagmjedkcipgaaDoorMgJObjA
import Derived.Test.YtbagmjedkcipgaaDoorMgSttDs
namespace Go.Proofs.YtbagmjedkcipgaaDoor
open Go.RowKit

def Tree.k : Tree → Int
  | .mk k _ _ _ _ _ => k
def Tree.n : Tree → Int
  | .mk _ n _ _ _ _ => n
def Tree.s : Tree → ByteArray
  | .mk _ _ _ s _ _ => s
def Tree.kids : Tree → List Tree
  | .mk _ _ _ _ _ kids => kids
def Tree.kn (t : Tree) : Int × Int := (t.k, t.n)
theorem kid_cells {W : World} {A : Option Addr} {i : Nat} {t : Tree} (h : KidAt W A i t) : ∃ (b off : Nat) (g : Int) (qa ra : Option Addr) (ql qc rc : Nat), A = some ⟨b, off, none⟩ ∧ b < W.heap.size ∧ W.cell? ⟨b, off + i * 6, none⟩ = some (.int .i64 t.k) ∧ W.cell? ⟨b, off + i * 6 + 1, none⟩ = some (.int .i64 t.n) ∧
    W.cell? ⟨b, off + i * 6 + 2, none⟩ = some (.int .i64 g) ∧ W.cell? ⟨b, off + i * 6 + 3, none⟩ = some (.string t.s) ∧ W.cell? ⟨b, off + i * 6 + 4, none⟩ = some (.slice qa ql qc) ∧ W.cell? ⟨b, off + i * 6 + 5, none⟩ = some (.slice ra t.kids.length rc) ∧ KidsIs W ra 0 t.kids := by
  obtain ⟨b, off, cs, h1, h2, h3, h4, h5⟩ := h
  cases t with
  | mk k n g s keys kids =>
    obtain ⟨qa, ra, qc, rc, rfl, _, _, h6⟩ := h5
    exact ⟨b, off, g, qa, ra, _, qc, rc, h1, h2, (h4 0 (by decide)).trans rfl, (h4 1 (by decide)).trans rfl, (h4 2 (by decide)).trans rfl, (h4 3 (by decide)).trans rfl, (h4 4 (by decide)).trans rfl, (h4 5 (by decide)).trans rfl, h6⟩
theorem kid_num {W : World} {b off i : Nat} {t : Tree} (h : KidAt W (some ⟨b, off, none⟩) i t) : NumAt W b (off + i * 6) t.k t.n := by
  obtain ⟨b', off', g, qa, ra, ql, qc, rc, e, h1, c0, c1, c2, c3, c4, c5, _⟩ := kid_cells h
  injection e with e
  injection e with e1 e2
  subst e1 e2
  exact ⟨g, t.s, _, _, h1, c0, c1, c2, c3, c4, c5⟩
theorem kid_str {W : World} {b off i : Nat} {t : Tree} (h : KidAt W (some ⟨b, off, none⟩) i t) : StrAt0 W b (off + i * 6) t.s := by
  obtain ⟨b', off', g, qa, ra, ql, qc, rc, e, h1, c0, c1, c2, c3, c4, c5, _⟩ := kid_cells h
  injection e with e
  injection e with e1 e2
  subst e1 e2
  exact ⟨h1, c3⟩
theorem kids_row {W : World} {A : Option Addr} {ts : List Tree} (h : KidsIs W A 0 ts) : RowAt W A (ts.map Tree.kn) := fun j hj => by
  have hj' : j < ts.length := by simpa using hj
  have hk := kids_at ts 0 h j hj'
  rw [Nat.zero_add] at hk
  obtain ⟨b, off, _, _, _, _, _, _, e, _⟩ := kid_cells hk
  subst e
  refine ⟨b, off, rfl, ?_⟩
  rw [List.getElem_map]
  exact kid_num hk
theorem kid_arr {W : World} {b off i : Nat} {t : Tree} (h : KidAt W (some ⟨b, off, none⟩) i t) : ∃ (A : Option Addr) (c : Nat), ArrAt W b (off + i * 6) A (t.kids.map Tree.kn).length c ∧ RowAt W A (t.kids.map Tree.kn) := by
  obtain ⟨b', off', g, qa, ra, ql, qc, rc, e, h1, c0, c1, c2, c3, c4, c5, h6⟩ := kid_cells h
  injection e with e
  injection e with e1 e2
  subst e1 e2
  exact ⟨ra, rc, ⟨h1, by rw [List.length_map]; exact c5⟩, kids_row h6⟩
theorem kids_nums {W : World} {b off : Nat} {ts : List Tree} (h : KidsIs W (some ⟨b, off, none⟩) 0 ts) : NumsAt W b off (ts.map Tree.kn) := fun j hj => by
  obtain ⟨b', off', e, h2⟩ := kids_row h j hj
  injection e with e
  injection e with e1 e2
  subst e1 e2
  exact h2
theorem kids_args {W : World} {A : Option Addr} {ts : List Tree} (h : KidsIs W A 0 ts) : ArgsAt W A (ts.map Tree.k) := fun j hj => by
  have hj' : j < ts.length := by simpa using hj
  have hk := kids_at ts 0 h j hj'
  rw [Nat.zero_add] at hk
  obtain ⟨b, off, g, qa, ra, ql, qc, rc, e, h1, c0, c1, c2, c3, c4, c5, _⟩ := kid_cells hk
  exact ⟨b, off, _, g, _, qa, ra, ql, qc, _, rc, e, h1, by rw [List.getElem_map]; exact c0, c1, c2, c3, c4, c5⟩
theorem kids_some {W : World} {A : Option Addr} {ts : List Tree} (h : KidsIs W A 0 ts) (hn : 0 < ts.length) : ∃ b off, A = some ⟨b, off, none⟩ ∧ b < W.heap.size := by
  have hk := kids_at ts 0 h 0 hn
  obtain ⟨b, off, _, _, _, _, _, _, e, h1, _⟩ := kid_cells hk
  exact ⟨b, off, e, h1⟩

/-- How many operands each operator of a state takes. -/
theorem takes_all : takesL [113] = [] ∧ takesL [81] = [] ∧ (takesL [99, 109]).length = 6 ∧ (takesL [119]).length = 1 ∧ (takesL [77]).length = 1 ∧ (takesL [74]).length = 1 ∧ (takesL [106]).length = 1 ∧ (takesL [100]).length = 2 ∧ (takesL [103]).length = 1 ∧ (takesL [71]).length = 1 ∧ (takesL [114, 103]).length = 3 ∧ (takesL [82, 71]).length = 3 ∧ (takesL [107]).length = 4 ∧ (takesL [75]).length = 4 ∧
    (takesL [84, 99]).length = 1 ∧ (takesL [84, 119]).length = 1 ∧ (takesL [84, 122]).length = 1 ∧ (takesL [84, 76]).length = 1 ∧ (takesL [84, 115]).length = 1 ∧ (takesL [84, 102]).length = 2 ∧ (takesL [84, 114]).length = 1 := by decide +kernel
theorem chk_len {nm data : List UInt8} {ks : List Int} (h : chkOp nm data ks = 0) : ks.length = (takesL nm).length := by
  unfold chkOp at h
  split at h
  · cases h
  · split at h
    · cases h
    · omega
end Go.Proofs.YtbagmjedkcipgaaDoor
