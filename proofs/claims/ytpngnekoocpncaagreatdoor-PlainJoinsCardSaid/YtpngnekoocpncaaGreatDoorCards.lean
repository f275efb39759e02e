/-
  DERIVED. GIVEN WITH THE SEED: THE CARDS: each row of YtpngnekoocpncaaGreatDoorRows.lean that lists a variable, with what it lists TIED to the program's text (the seventh form; the later family's looks); each row that meets fmt, with fmt's text TOLD by the authors' own Lean function (tested against real Go, not proved from fmt's source: count such statements apart). THE CARD IS WHAT COUNTS. Prove the row's statement (the work); the ties are given (YtpngnekoocpncaaGreatDoorTie.lean); close each card by the builder's one call (the guide's Derived/Test/ToyasCard.lean, 'card_holds'). Laid BY PROGRAM, IN A SANDBOX (cutbox-door.mjs). By AI agents, Wed Nov 11 2026. No macro, syntax, notation, axiom, sorry.
-/
import Derived.Test.YtpngnekoocpncaaGreatDoorRows
import GoSem.ClaimSeven
namespace Go.Proofs.YtpngnekoocpncaaGreatDoor
namespace Rows

/-- THE TIED CARD OF 'foliantlaw04.PlainReads'. -/
def plainReadsCard : Claim7 := { stood := { row := plainReadsRow, standIns := [], harness := (true, "c2d78bd015c820d440947951d62c6d09399b5b8fa09856e983d508b00b430805"), looks := true }, kinds := [], alts := [], laidByText := true, laidKinds := [.data, .data, .data, .data, .pinned], laidTests := true, laidLooks := .later }
def PlainReadsCardSaid : Prop := Claim7.holds Tryz.pinned (.plain (OpenSpec.ofChange plainReadsSpec)) plainReadsCard

/-- THE TIED CARD OF 'foliantlaw04.PlainJoins'. -/
def plainJoinsCard : Claim7 := { stood := { row := plainJoinsRow, standIns := [], harness := (true, "c2d78bd015c820d440947951d62c6d09399b5b8fa09856e983d508b00b430805"), looks := true }, kinds := [], alts := [], laidByText := true, laidKinds := [.data, .data, .data, .data, .pinned], laidTests := true, laidLooks := .later }
def PlainJoinsCardSaid : Prop := Claim7.holds Tryz.pinned (.plain (OpenSpec.ofChange plainJoinsSpec)) plainJoinsCard

/-- THE SECOND FORM's CARD OF 'foliantlaw04.PlainReads'. -/
def plainReadsUptoCard : Claim7 := { stood := { row := plainReadsUptoRow, standIns := [], harness := (true, "c2d78bd015c820d440947951d62c6d09399b5b8fa09856e983d508b00b430805"), looks := true }, kinds := [], alts := [], laidByText := true, laidKinds := [.data, .data, .data, .data, .pinned], laidTests := true, laidLooks := .later }
def PlainReadsUptoCardSaid : Prop := Claim7.holds Tryz.pinned (.plain (OpenSpec.upto plainReadsSpec)) plainReadsUptoCard

/-- THE SECOND FORM's CARD OF 'foliantlaw04.PlainJoins'. -/
def plainJoinsUptoCard : Claim7 := { stood := { row := plainJoinsUptoRow, standIns := [], harness := (true, "c2d78bd015c820d440947951d62c6d09399b5b8fa09856e983d508b00b430805"), looks := true }, kinds := [], alts := [], laidByText := true, laidKinds := [.data, .data, .data, .data, .pinned], laidTests := true, laidLooks := .later }
def PlainJoinsUptoCardSaid : Prop := Claim7.holds Tryz.pinned (.plain (OpenSpec.upto plainJoinsSpec)) plainJoinsUptoCard
end Rows
end Go.Proofs.YtpngnekoocpncaaGreatDoor
