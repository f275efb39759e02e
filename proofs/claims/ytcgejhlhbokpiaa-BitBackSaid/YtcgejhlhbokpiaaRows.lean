/-
  No cell of these rows narrows 'for every input' (looked for: loops, veiled, ifaces, maps, wideKeys, modest, calm, conditions, laid).
  DERIVED. THE GIVEN ROWS OF THIS SEAT. 5 by the template 'for every input the law returns true; each argument reads behind the call as it read before'; 0 by the template 'total and deterministic' (their statements: YtcgejhlhbokpiaaTotals.lean).
  GIVEN WITH THE SEED: the statements are not yours to turn. If you find one false, say at which input.
  Laid BY PROGRAM, IN A SANDBOX (cutbox-rows.mjs): the forced cells as the released guide's own fill.sh prints them over the translation a7d32814eb6ef63a… (all of the seat's roots in one cut). By AI agents, Wed Nov 11 2026. No macro, syntax, notation, axiom, sorry.
-/
import Derived.Test.YtcgejhlhbokpiaaChecked
import GoSem.Claim
import GoSem.ClaimJoined
import GoSem.ClaimMapViews
import Derived.JoinedTies
import Derived.KernelRfl
namespace Go.Proofs.Ytcgejhlhbokpiaa
/- THE CELL 'sum', in the pinned program and in every row, IS THE sha256 OF THE DUMP (.gsa) THAT YtcgejhlhbokpiaaProg.lean LOADS. Nothing in Lean hashes anything: it is a label: what it is worth is what the hold of that sum in a sandbox is worth. -/
noncomputable def Try.pinned : Pinned := { name := "ytcgejhlhbokpiaa", sum := "a7d32814eb6ef63abff2b9c568d5f33ad61d9660e7892385bcc4fb6ae50d2c5e", checked := Try.checked }
namespace Rows
def none {H : Type} : Left H := { results := [], args := [] }

/-- 'foliantlaw09.BitReads': WHATEVER THE INPUT: true; the input reads as it did. -/
def bitReadsSpec : ChangeSpec := { name := "bitReads", fn := fun _ => fun
  | [d1, d2] => { results := [.lit (.bool true)], args := [d1, d2] }
  | _ => none }
def bitReadsRow : OpenClaim := { program := "ytcgejhlhbokpiaa", sum := "a7d32814eb6ef63abff2b9c568d5f33ad61d9660e7892385bcc4fb6ae50d2c5e", func := "foliant/foliantlaw09.BitReads", spec := "bitReads", apart := false }
def BitReadsSaid : Prop := bitReadsRow.holds Try.pinned (OpenSpec.ofChange bitReadsSpec)

/-- ITS FALSE NEIGHBOUR: 'it returns false'. Refute it at one input. -/
def bitReadsWrong : ChangeSpec := { name := "bitReads", fn := fun _ => fun
  | [d1, d2] => { results := [.lit (.bool false)], args := [d1, d2] }
  | _ => none }
def BitReadsWrongFalsely : Prop := bitReadsRow.holds Try.pinned (OpenSpec.ofChange bitReadsWrong)

/-- 'foliantlaw09.BitWrites': WHATEVER THE INPUT: true; the input reads as it did. -/
def bitWritesSpec : ChangeSpec := { name := "bitWrites", fn := fun _ => fun
  | [d] => { results := [.lit (.bool true)], args := [d] }
  | _ => none }
def bitWritesRow : OpenClaim := { program := "ytcgejhlhbokpiaa", sum := "a7d32814eb6ef63abff2b9c568d5f33ad61d9660e7892385bcc4fb6ae50d2c5e", func := "foliant/foliantlaw09.BitWrites", spec := "bitWrites", apart := false }
def BitWritesSaid : Prop := bitWritesRow.holds Try.pinned (OpenSpec.ofChange bitWritesSpec)

/-- ITS FALSE NEIGHBOUR: 'it returns false'. Refute it at one input. -/
def bitWritesWrong : ChangeSpec := { name := "bitWrites", fn := fun _ => fun
  | [d] => { results := [.lit (.bool false)], args := [d] }
  | _ => none }
def BitWritesWrongFalsely : Prop := bitWritesRow.holds Try.pinned (OpenSpec.ofChange bitWritesWrong)

/-- 'foliantlaw09.BitBack': WHATEVER THE INPUT: true; the input reads as it did. -/
def bitBackSpec : ChangeSpec := { name := "bitBack", fn := fun _ => fun
  | [d] => { results := [.lit (.bool true)], args := [d] }
  | _ => none }
def bitBackRow : OpenClaim := { program := "ytcgejhlhbokpiaa", sum := "a7d32814eb6ef63abff2b9c568d5f33ad61d9660e7892385bcc4fb6ae50d2c5e", func := "foliant/foliantlaw09.BitBack", spec := "bitBack", apart := false }
def BitBackSaid : Prop := bitBackRow.holds Try.pinned (OpenSpec.ofChange bitBackSpec)

/-- ITS FALSE NEIGHBOUR: 'it returns false'. Refute it at one input. -/
def bitBackWrong : ChangeSpec := { name := "bitBack", fn := fun _ => fun
  | [d] => { results := [.lit (.bool false)], args := [d] }
  | _ => none }
def BitBackWrongFalsely : Prop := bitBackRow.holds Try.pinned (OpenSpec.ofChange bitBackWrong)

/-- 'foliantlaw09.BitJoins': WHATEVER THE INPUT: true; the input reads as it did. -/
def bitJoinsSpec : ChangeSpec := { name := "bitJoins", fn := fun _ => fun
  | [d1, d2, d3, d4] => { results := [.lit (.bool true)], args := [d1, d2, d3, d4] }
  | _ => none }
def bitJoinsRow : OpenClaim := { program := "ytcgejhlhbokpiaa", sum := "a7d32814eb6ef63abff2b9c568d5f33ad61d9660e7892385bcc4fb6ae50d2c5e", func := "foliant/foliantlaw09.BitJoins", spec := "bitJoins", apart := false }
def BitJoinsSaid : Prop := bitJoinsRow.holds Try.pinned (OpenSpec.ofChange bitJoinsSpec)

/-- ITS FALSE NEIGHBOUR: 'it returns false'. Refute it at one input. -/
def bitJoinsWrong : ChangeSpec := { name := "bitJoins", fn := fun _ => fun
  | [d1, d2, d3, d4] => { results := [.lit (.bool false)], args := [d1, d2, d3, d4] }
  | _ => none }
def BitJoinsWrongFalsely : Prop := bitJoinsRow.holds Try.pinned (OpenSpec.ofChange bitJoinsWrong)

/-- 'foliantlaw09.BitNone': WHATEVER THE INPUT: true; the input reads as it did. -/
def bitNoneSpec : ChangeSpec := { name := "bitNone", fn := fun _ => fun
  | [d1, d2] => { results := [.lit (.bool true)], args := [d1, d2] }
  | _ => none }
def bitNoneRow : OpenClaim := { program := "ytcgejhlhbokpiaa", sum := "a7d32814eb6ef63abff2b9c568d5f33ad61d9660e7892385bcc4fb6ae50d2c5e", func := "foliant/foliantlaw09.BitNone", spec := "bitNone", apart := false }
def BitNoneSaid : Prop := bitNoneRow.holds Try.pinned (OpenSpec.ofChange bitNoneSpec)

/-- ITS FALSE NEIGHBOUR: 'it returns false'. Refute it at one input. -/
def bitNoneWrong : ChangeSpec := { name := "bitNone", fn := fun _ => fun
  | [d1, d2] => { results := [.lit (.bool false)], args := [d1, d2] }
  | _ => none }
def BitNoneWrongFalsely : Prop := bitNoneRow.holds Try.pinned (OpenSpec.ofChange bitNoneWrong)

/- THE SECOND FORM. 'bulk': how many values and letters a reading holds, each counted each time it is reached (what is shared counts as often as it is met; a slice's spare places count too). A statement '..UptoSaid' is the law's where the arguments, and the package variables that the reading takes, are together of bulk at most 1048576: NARROWER than '..Said'. Prove '..Said' where nothing that the law and all that it calls make is longer than what came in: it says more and counts as full. Else prove '..UptoSaid'. A law counts once. -/
mutual
def uptoBulk {H : Type} : DataW H → Nat
  | .lit (.string bytes) => bytes.length + 1
  | .lit _ => 1
  | .nil => 1
  | .ptr d => uptoBulk d + 1
  | .slice elems spare => uptoBulkAll elems + uptoBulkAll spare + 1
  | .agg parts => uptoBulkAll parts + 1
  | .iface _ d => uptoBulk d + 1
  | .map entries => uptoBulkEntries entries + 1
  | .held _ => 1
def uptoBulkAll {H : Type} : List (DataW H) → Nat
  | [] => 0
  | d :: r => uptoBulk d + uptoBulkAll r
def uptoBulkEntries {H : Type} : List (Lit × DataW H) → Nat
  | [] => 0
  | x :: r => uptoBulkEntry x + uptoBulkEntries r
def uptoBulkEntry {H : Type} : Lit × DataW H → Nat
  | (.string bytes, d) => bytes.length + uptoBulk d + 1
  | (_, d) => uptoBulk d + 1
 end
def uptoSmall : (H : Type) → List (DataW H) → Bool := fun _ ds => decide (uptoBulkAll ds ≤ 1048576)
def OpenSpec.upto (s : _root_.Go.ChangeSpec) : _root_.Go.OpenSpec := { _root_.Go.OpenSpec.ofChange s with cond := some uptoSmall }

/-- 'foliantlaw09.BitReads', WHERE WHAT IT READS IS OF BULK AT MOST 1048576: true; the input reads as it did. -/
def bitReadsUptoRow : OpenClaim := { program := "ytcgejhlhbokpiaa", sum := "a7d32814eb6ef63abff2b9c568d5f33ad61d9660e7892385bcc4fb6ae50d2c5e", func := "foliant/foliantlaw09.BitReads", spec := "bitReads", apart := false, narrowed := true }
def BitReadsUptoSaid : Prop := bitReadsUptoRow.holds Try.pinned (OpenSpec.upto bitReadsSpec)

/-- 'foliantlaw09.BitWrites', WHERE WHAT IT READS IS OF BULK AT MOST 1048576: true; the input reads as it did. -/
def bitWritesUptoRow : OpenClaim := { program := "ytcgejhlhbokpiaa", sum := "a7d32814eb6ef63abff2b9c568d5f33ad61d9660e7892385bcc4fb6ae50d2c5e", func := "foliant/foliantlaw09.BitWrites", spec := "bitWrites", apart := false, narrowed := true }
def BitWritesUptoSaid : Prop := bitWritesUptoRow.holds Try.pinned (OpenSpec.upto bitWritesSpec)

/-- 'foliantlaw09.BitBack', WHERE WHAT IT READS IS OF BULK AT MOST 1048576: true; the input reads as it did. -/
def bitBackUptoRow : OpenClaim := { program := "ytcgejhlhbokpiaa", sum := "a7d32814eb6ef63abff2b9c568d5f33ad61d9660e7892385bcc4fb6ae50d2c5e", func := "foliant/foliantlaw09.BitBack", spec := "bitBack", apart := false, narrowed := true }
def BitBackUptoSaid : Prop := bitBackUptoRow.holds Try.pinned (OpenSpec.upto bitBackSpec)

/-- 'foliantlaw09.BitJoins', WHERE WHAT IT READS IS OF BULK AT MOST 1048576: true; the input reads as it did. -/
def bitJoinsUptoRow : OpenClaim := { program := "ytcgejhlhbokpiaa", sum := "a7d32814eb6ef63abff2b9c568d5f33ad61d9660e7892385bcc4fb6ae50d2c5e", func := "foliant/foliantlaw09.BitJoins", spec := "bitJoins", apart := false, narrowed := true }
def BitJoinsUptoSaid : Prop := bitJoinsUptoRow.holds Try.pinned (OpenSpec.upto bitJoinsSpec)

/-- 'foliantlaw09.BitNone', WHERE WHAT IT READS IS OF BULK AT MOST 1048576: true; the input reads as it did. -/
def bitNoneUptoRow : OpenClaim := { program := "ytcgejhlhbokpiaa", sum := "a7d32814eb6ef63abff2b9c568d5f33ad61d9660e7892385bcc4fb6ae50d2c5e", func := "foliant/foliantlaw09.BitNone", spec := "bitNone", apart := false, narrowed := true }
def BitNoneUptoSaid : Prop := bitNoneUptoRow.holds Try.pinned (OpenSpec.upto bitNoneSpec)

end Rows
end Go.Proofs.Ytcgejhlhbokpiaa
