/-
  No cell of these rows narrows 'for every input' (looked for: loops, veiled, ifaces, maps, wideKeys, modest, calm, conditions, laid).
  DERIVED. THE GIVEN ROWS OF THIS SEAT. 5 by the template 'for every input the law returns true; each argument reads behind the call as it read before'; 0 by the template 'total and deterministic' (their statements: YtkcnhdponcbjaaaTotals.lean).
  GIVEN WITH THE SEED: the statements are not yours to turn. If you find one false, say at which input.
  Laid BY PROGRAM, IN A SANDBOX (cutbox-rows.mjs): the forced cells as the released guide's own fill.sh prints them over the translation 35f5e3ff3147b038… (all of the seat's roots in one cut). By AI agents, Wed Nov 11 2026. No macro, syntax, notation, axiom, sorry.
-/
import Derived.Test.YtkcnhdponcbjaaaChecked
import GoSem.Claim
import GoSem.ClaimJoined
import GoSem.ClaimMapViews
import Derived.JoinedTies
import Derived.KernelRfl
namespace Go.Proofs.Ytkcnhdponcbjaaa
/- THE CELL 'sum', in the pinned program and in every row, IS THE sha256 OF THE DUMP (.gsa) THAT YtkcnhdponcbjaaaProg.lean LOADS. Nothing in Lean hashes anything: it is a label: what it is worth is what the hold of that sum in a sandbox is worth. -/
noncomputable def Try.pinned : Pinned := { name := "ytkcnhdponcbjaaa", sum := "35f5e3ff3147b0384b24f3ab19c079161661bfbc78aebc76d3b963d9ffff889e", checked := Try.checked }
namespace Rows
def none {H : Type} : Left H := { results := [], args := [] }

/-- 'foliantlaw32.HintTells': WHATEVER THE INPUT: true; the input reads as it did. -/
def hintTellsSpec : ChangeSpec := { name := "hintTells", fn := fun _ => fun
  | [d1, d2, d3] => { results := [.lit (.bool true)], args := [d1, d2, d3] }
  | _ => none }
def hintTellsRow : OpenClaim := { program := "ytkcnhdponcbjaaa", sum := "35f5e3ff3147b0384b24f3ab19c079161661bfbc78aebc76d3b963d9ffff889e", func := "foliant/foliantlaw32.HintTells", spec := "hintTells", unfollowed := true, recurses := true, apart := false }
def HintTellsSaid : Prop := hintTellsRow.holds Try.pinned (OpenSpec.ofChange hintTellsSpec)

/-- ITS FALSE NEIGHBOUR: 'it returns false'. Refute it at one input. -/
def hintTellsWrong : ChangeSpec := { name := "hintTells", fn := fun _ => fun
  | [d1, d2, d3] => { results := [.lit (.bool false)], args := [d1, d2, d3] }
  | _ => none }
def HintTellsWrongFalsely : Prop := hintTellsRow.holds Try.pinned (OpenSpec.ofChange hintTellsWrong)

/-- 'foliantlaw32.HintBack': WHATEVER THE INPUT: true; the input reads as it did. -/
def hintBackSpec : ChangeSpec := { name := "hintBack", fn := fun _ => fun
  | [d1, d2] => { results := [.lit (.bool true)], args := [d1, d2] }
  | _ => none }
def hintBackRow : OpenClaim := { program := "ytkcnhdponcbjaaa", sum := "35f5e3ff3147b0384b24f3ab19c079161661bfbc78aebc76d3b963d9ffff889e", func := "foliant/foliantlaw32.HintBack", spec := "hintBack", unfollowed := true, recurses := true, apart := false }
def HintBackSaid : Prop := hintBackRow.holds Try.pinned (OpenSpec.ofChange hintBackSpec)

/-- ITS FALSE NEIGHBOUR: 'it returns false'. Refute it at one input. -/
def hintBackWrong : ChangeSpec := { name := "hintBack", fn := fun _ => fun
  | [d1, d2] => { results := [.lit (.bool false)], args := [d1, d2] }
  | _ => none }
def HintBackWrongFalsely : Prop := hintBackRow.holds Try.pinned (OpenSpec.ofChange hintBackWrong)

/-- 'foliantlaw32.HintOne': WHATEVER THE INPUT: true; the input reads as it did. -/
def hintOneSpec : ChangeSpec := { name := "hintOne", fn := fun _ => fun
  | [d] => { results := [.lit (.bool true)], args := [d] }
  | _ => none }
def hintOneRow : OpenClaim := { program := "ytkcnhdponcbjaaa", sum := "35f5e3ff3147b0384b24f3ab19c079161661bfbc78aebc76d3b963d9ffff889e", func := "foliant/foliantlaw32.HintOne", spec := "hintOne", unfollowed := true, recurses := true, apart := false }
def HintOneSaid : Prop := hintOneRow.holds Try.pinned (OpenSpec.ofChange hintOneSpec)

/-- ITS FALSE NEIGHBOUR: 'it returns false'. Refute it at one input. -/
def hintOneWrong : ChangeSpec := { name := "hintOne", fn := fun _ => fun
  | [d] => { results := [.lit (.bool false)], args := [d] }
  | _ => none }
def HintOneWrongFalsely : Prop := hintOneRow.holds Try.pinned (OpenSpec.ofChange hintOneWrong)

/-- 'foliantlaw32.HintLong': WHATEVER THE INPUT: true; the input reads as it did. -/
def hintLongSpec : ChangeSpec := { name := "hintLong", fn := fun _ => fun
  | [d1, d2, d3, d4, d5] => { results := [.lit (.bool true)], args := [d1, d2, d3, d4, d5] }
  | _ => none }
def hintLongRow : OpenClaim := { program := "ytkcnhdponcbjaaa", sum := "35f5e3ff3147b0384b24f3ab19c079161661bfbc78aebc76d3b963d9ffff889e", func := "foliant/foliantlaw32.HintLong", spec := "hintLong", unfollowed := true, recurses := true, apart := false }
def HintLongSaid : Prop := hintLongRow.holds Try.pinned (OpenSpec.ofChange hintLongSpec)

/-- ITS FALSE NEIGHBOUR: 'it returns false'. Refute it at one input. -/
def hintLongWrong : ChangeSpec := { name := "hintLong", fn := fun _ => fun
  | [d1, d2, d3, d4, d5] => { results := [.lit (.bool false)], args := [d1, d2, d3, d4, d5] }
  | _ => none }
def HintLongWrongFalsely : Prop := hintLongRow.holds Try.pinned (OpenSpec.ofChange hintLongWrong)

/-- 'folianttop.TopHints': WHATEVER THE INPUT: true; the input reads as it did. -/
def topHintsSpec : ChangeSpec := { name := "topHints", fn := fun _ => fun
  | [d1, d2, d3] => { results := [.lit (.bool true)], args := [d1, d2, d3] }
  | _ => none }
def topHintsRow : OpenClaim := { program := "ytkcnhdponcbjaaa", sum := "35f5e3ff3147b0384b24f3ab19c079161661bfbc78aebc76d3b963d9ffff889e", func := "foliant/folianttop.TopHints", spec := "topHints", unfollowed := true, recurses := true, apart := false }
def TopHintsSaid : Prop := topHintsRow.holds Try.pinned (OpenSpec.ofChange topHintsSpec)

/-- ITS FALSE NEIGHBOUR: 'it returns false'. Refute it at one input. -/
def topHintsWrong : ChangeSpec := { name := "topHints", fn := fun _ => fun
  | [d1, d2, d3] => { results := [.lit (.bool false)], args := [d1, d2, d3] }
  | _ => none }
def TopHintsWrongFalsely : Prop := topHintsRow.holds Try.pinned (OpenSpec.ofChange topHintsWrong)

/- THE SECOND FORM. 'bulk': how many values and letters a reading holds, each counted each time it is reached (what is shared counts as often as it is met; a slice's spare places count too). A statement '..UptoSaid' is the law's where the arguments, and the package variables that the reading takes, are together of bulk at most 1048576: NARROWER than '..Said'. Prove '..Said' where nothing that the law and all that it calls make is longer than what came in: it says more and counts as full. Else prove '..UptoSaid'. A law counts once. -/
mutual
def uptoBulk {H : Type} : DataW H → Nat
  | .lit (.string bytes) => bytes.length + 1
  | .lit _ => 1
  | .nil => 1
  | .ptr d => uptoBulk d + 1
  | .slice elems spare => uptoBulkAll elems + uptoBulkAll spare + 1
  | .agg parts => uptoBulkAll parts + 1
  | .iface _ d => uptoBulk d + 1
  | .map entries => uptoBulkEntries entries + 1
  | .held _ => 1
def uptoBulkAll {H : Type} : List (DataW H) → Nat
  | [] => 0
  | d :: r => uptoBulk d + uptoBulkAll r
def uptoBulkEntries {H : Type} : List (Lit × DataW H) → Nat
  | [] => 0
  | x :: r => uptoBulkEntry x + uptoBulkEntries r
def uptoBulkEntry {H : Type} : Lit × DataW H → Nat
  | (.string bytes, d) => bytes.length + uptoBulk d + 1
  | (_, d) => uptoBulk d + 1
 end
def uptoSmall : (H : Type) → List (DataW H) → Bool := fun _ ds => decide (uptoBulkAll ds ≤ 1048576)
def OpenSpec.upto (s : _root_.Go.ChangeSpec) : _root_.Go.OpenSpec := { _root_.Go.OpenSpec.ofChange s with cond := some uptoSmall }

/-- 'foliantlaw32.HintTells', WHERE WHAT IT READS IS OF BULK AT MOST 1048576: true; the input reads as it did. -/
def hintTellsUptoRow : OpenClaim := { program := "ytkcnhdponcbjaaa", sum := "35f5e3ff3147b0384b24f3ab19c079161661bfbc78aebc76d3b963d9ffff889e", func := "foliant/foliantlaw32.HintTells", spec := "hintTells", unfollowed := true, recurses := true, apart := false, narrowed := true }
def HintTellsUptoSaid : Prop := hintTellsUptoRow.holds Try.pinned (OpenSpec.upto hintTellsSpec)

/-- 'foliantlaw32.HintBack', WHERE WHAT IT READS IS OF BULK AT MOST 1048576: true; the input reads as it did. -/
def hintBackUptoRow : OpenClaim := { program := "ytkcnhdponcbjaaa", sum := "35f5e3ff3147b0384b24f3ab19c079161661bfbc78aebc76d3b963d9ffff889e", func := "foliant/foliantlaw32.HintBack", spec := "hintBack", unfollowed := true, recurses := true, apart := false, narrowed := true }
def HintBackUptoSaid : Prop := hintBackUptoRow.holds Try.pinned (OpenSpec.upto hintBackSpec)

/-- 'foliantlaw32.HintOne', WHERE WHAT IT READS IS OF BULK AT MOST 1048576: true; the input reads as it did. -/
def hintOneUptoRow : OpenClaim := { program := "ytkcnhdponcbjaaa", sum := "35f5e3ff3147b0384b24f3ab19c079161661bfbc78aebc76d3b963d9ffff889e", func := "foliant/foliantlaw32.HintOne", spec := "hintOne", unfollowed := true, recurses := true, apart := false, narrowed := true }
def HintOneUptoSaid : Prop := hintOneUptoRow.holds Try.pinned (OpenSpec.upto hintOneSpec)

/-- 'foliantlaw32.HintLong', WHERE WHAT IT READS IS OF BULK AT MOST 1048576: true; the input reads as it did. -/
def hintLongUptoRow : OpenClaim := { program := "ytkcnhdponcbjaaa", sum := "35f5e3ff3147b0384b24f3ab19c079161661bfbc78aebc76d3b963d9ffff889e", func := "foliant/foliantlaw32.HintLong", spec := "hintLong", unfollowed := true, recurses := true, apart := false, narrowed := true }
def HintLongUptoSaid : Prop := hintLongUptoRow.holds Try.pinned (OpenSpec.upto hintLongSpec)

/-- 'folianttop.TopHints', WHERE WHAT IT READS IS OF BULK AT MOST 1048576: true; the input reads as it did. -/
def topHintsUptoRow : OpenClaim := { program := "ytkcnhdponcbjaaa", sum := "35f5e3ff3147b0384b24f3ab19c079161661bfbc78aebc76d3b963d9ffff889e", func := "foliant/folianttop.TopHints", spec := "topHints", unfollowed := true, recurses := true, apart := false, narrowed := true }
def TopHintsUptoSaid : Prop := topHintsUptoRow.holds Try.pinned (OpenSpec.upto topHintsSpec)

end Rows
end Go.Proofs.Ytkcnhdponcbjaaa
