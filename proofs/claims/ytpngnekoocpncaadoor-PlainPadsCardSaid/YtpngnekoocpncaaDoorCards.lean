/-
  DERIVED. GIVEN WITH THE SEED: THE CARDS: each row of YtpngnekoocpncaaDoorRows.lean that lists a variable, with what it lists TIED to the program's text (the seventh form; the later family's looks); each row that meets fmt, with fmt's text TOLD by the authors' own Lean function (tested against real Go, not proved from fmt's source: count such statements apart). THE CARD IS WHAT COUNTS. Prove the row's statement (the work); the ties are given (YtpngnekoocpncaaDoorTie.lean); close each card by the builder's one call (the guide's Derived/Test/ToyasCard.lean, 'card_holds'). Laid BY PROGRAM, IN A SANDBOX (cutbox-door.mjs). By AI agents, Wed Nov 11 2026. No macro, syntax, notation, axiom, sorry.
-/
import Derived.Test.YtpngnekoocpncaaDoorRows
import GoSem.ClaimSeven
namespace Go.Proofs.YtpngnekoocpncaaDoor
namespace Rows

/-- THE TIED CARD OF 'foliantlaw04.PlainTells'. -/
def plainTellsCard : Claim7 := { stood := { row := plainTellsRow, standIns := [], harness := (true, "15665fb1cb7e8afccacb1e808e8534b4d9a877273d225d78db7d209637ad493e"), looks := true }, kinds := [], alts := [], laidByText := true, laidKinds := [.data, .data, .data, .data, .pinned], laidTests := true, laidLooks := .later }
def PlainTellsCardSaid : Prop := Claim7.holds Tryd.pinned (.plain (OpenSpec.ofChange plainTellsSpec)) plainTellsCard

/-- THE TIED CARD OF 'foliantlaw04.PlainOneWay'. -/
def plainOneWayCard : Claim7 := { stood := { row := plainOneWayRow, standIns := [], harness := (true, "15665fb1cb7e8afccacb1e808e8534b4d9a877273d225d78db7d209637ad493e"), looks := true }, kinds := [], alts := [], laidByText := true, laidKinds := [.data, .data, .data, .data, .pinned], laidTests := true, laidLooks := .later }
def PlainOneWayCardSaid : Prop := Claim7.holds Tryd.pinned (.plain (OpenSpec.ofChange plainOneWaySpec)) plainOneWayCard

/-- THE TIED CARD OF 'foliantlaw04.PlainPads'. -/
def plainPadsCard : Claim7 := { stood := { row := plainPadsRow, standIns := [], harness := (true, "15665fb1cb7e8afccacb1e808e8534b4d9a877273d225d78db7d209637ad493e"), looks := true }, kinds := [], alts := [], laidByText := true, laidKinds := [.data, .data, .data, .data, .pinned], laidTests := true, laidLooks := .later }
def PlainPadsCardSaid : Prop := Claim7.holds Tryd.pinned (.plain (OpenSpec.ofChange plainPadsSpec)) plainPadsCard

/-- THE TIED CARD OF 'folianttop.TopTokens'. -/
def topTokensCard : Claim7 := { stood := { row := topTokensRow, standIns := [], harness := (true, "15665fb1cb7e8afccacb1e808e8534b4d9a877273d225d78db7d209637ad493e"), looks := true }, kinds := [], alts := [], laidByText := true, laidKinds := [.data, .data, .data, .data, .pinned], laidTests := true, laidLooks := .later }
def TopTokensCardSaid : Prop := Claim7.holds Tryd.pinned (.plain (OpenSpec.ofChange topTokensSpec)) topTokensCard

/-- THE TIED CARD OF 'folianttop.TopRemarks'. -/
def topRemarksCard : Claim7 := { stood := { row := topRemarksRow, standIns := [], harness := (true, "15665fb1cb7e8afccacb1e808e8534b4d9a877273d225d78db7d209637ad493e"), looks := true }, kinds := [], alts := [], laidByText := true, laidKinds := [.data, .data, .data, .data, .pinned], laidTests := true, laidLooks := .later }
def TopRemarksCardSaid : Prop := Claim7.holds Tryd.pinned (.plain (OpenSpec.ofChange topRemarksSpec)) topRemarksCard

/-- THE SECOND FORM's CARD OF 'foliantlaw04.PlainTells'. -/
def plainTellsUptoCard : Claim7 := { stood := { row := plainTellsUptoRow, standIns := [], harness := (true, "15665fb1cb7e8afccacb1e808e8534b4d9a877273d225d78db7d209637ad493e"), looks := true }, kinds := [], alts := [], laidByText := true, laidKinds := [.data, .data, .data, .data, .pinned], laidTests := true, laidLooks := .later }
def PlainTellsUptoCardSaid : Prop := Claim7.holds Tryd.pinned (.plain (OpenSpec.upto plainTellsSpec)) plainTellsUptoCard

/-- THE SECOND FORM's CARD OF 'foliantlaw04.PlainOneWay'. -/
def plainOneWayUptoCard : Claim7 := { stood := { row := plainOneWayUptoRow, standIns := [], harness := (true, "15665fb1cb7e8afccacb1e808e8534b4d9a877273d225d78db7d209637ad493e"), looks := true }, kinds := [], alts := [], laidByText := true, laidKinds := [.data, .data, .data, .data, .pinned], laidTests := true, laidLooks := .later }
def PlainOneWayUptoCardSaid : Prop := Claim7.holds Tryd.pinned (.plain (OpenSpec.upto plainOneWaySpec)) plainOneWayUptoCard

/-- THE SECOND FORM's CARD OF 'foliantlaw04.PlainPads'. -/
def plainPadsUptoCard : Claim7 := { stood := { row := plainPadsUptoRow, standIns := [], harness := (true, "15665fb1cb7e8afccacb1e808e8534b4d9a877273d225d78db7d209637ad493e"), looks := true }, kinds := [], alts := [], laidByText := true, laidKinds := [.data, .data, .data, .data, .pinned], laidTests := true, laidLooks := .later }
def PlainPadsUptoCardSaid : Prop := Claim7.holds Tryd.pinned (.plain (OpenSpec.upto plainPadsSpec)) plainPadsUptoCard

/-- THE SECOND FORM's CARD OF 'folianttop.TopTokens'. -/
def topTokensUptoCard : Claim7 := { stood := { row := topTokensUptoRow, standIns := [], harness := (true, "15665fb1cb7e8afccacb1e808e8534b4d9a877273d225d78db7d209637ad493e"), looks := true }, kinds := [], alts := [], laidByText := true, laidKinds := [.data, .data, .data, .data, .pinned], laidTests := true, laidLooks := .later }
def TopTokensUptoCardSaid : Prop := Claim7.holds Tryd.pinned (.plain (OpenSpec.upto topTokensSpec)) topTokensUptoCard

/-- THE SECOND FORM's CARD OF 'folianttop.TopRemarks'. -/
def topRemarksUptoCard : Claim7 := { stood := { row := topRemarksUptoRow, standIns := [], harness := (true, "15665fb1cb7e8afccacb1e808e8534b4d9a877273d225d78db7d209637ad493e"), looks := true }, kinds := [], alts := [], laidByText := true, laidKinds := [.data, .data, .data, .data, .pinned], laidTests := true, laidLooks := .later }
def TopRemarksUptoCardSaid : Prop := Claim7.holds Tryd.pinned (.plain (OpenSpec.upto topRemarksSpec)) topRemarksUptoCard
end Rows
end Go.Proofs.YtpngnekoocpncaaDoor
