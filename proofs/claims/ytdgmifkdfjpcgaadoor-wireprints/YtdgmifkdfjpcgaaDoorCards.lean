/-
  DERIVED. GIVEN WITH THE SEED: THE CARDS: each row of YtdgmifkdfjpcgaaDoorRows.lean that lists a variable, with what it lists TIED to the program's text (the seventh form; the later family's looks); each row that meets fmt, with fmt's text TOLD by the authors' own Lean function (tested against real Go, not proved from fmt's source: count such statements apart). THE CARD IS WHAT COUNTS. Prove the row's statement (the work); the ties are given (YtdgmifkdfjpcgaaDoorTie.lean); close each card by the builder's one call (the guide's Derived/Test/ToyasCard.lean, 'card_holds'). Laid BY PROGRAM, IN A SANDBOX (cutbox-door.mjs). By AI agents, Wed Nov 11 2026. No macro, syntax, notation, axiom, sorry.
-/
import Derived.Test.YtdgmifkdfjpcgaaDoorRows
import GoSem.ClaimSeven
namespace Go.Proofs.YtdgmifkdfjpcgaaDoor
namespace Rows

/-- THE TIED CARD OF 'dovecotelaw.WireEncodes'. -/
def wireEncodesCard : Claim7 := { stood := { row := wireEncodesRow, standIns := [], harness := (true, "e0942bade294e25f3fb58dc169c1482036dd48daa83092847d6171e8b59a60bd"), looks := false }, kinds := [], alts := [], laidByText := true, laidKinds := [.data, .data, .data, .data], laidTests := true, laidLooks := .later }
def WireEncodesCardSaid : Prop := Claim7.holds Tryd.pinned (.plain (OpenSpec.ofChange wireEncodesSpec)) wireEncodesCard

/-- THE TIED CARD OF 'dovecotelaw.WireNext'. -/
def wireNextCard : Claim7 := { stood := { row := wireNextRow, standIns := [], harness := (true, "e0942bade294e25f3fb58dc169c1482036dd48daa83092847d6171e8b59a60bd"), looks := false }, kinds := [], alts := [], laidByText := true, laidKinds := [.data, .data, .data, .pinned], laidTests := true, laidLooks := .later }
def WireNextCardSaid : Prop := Claim7.holds Tryd.pinned (.plain (OpenSpec.ofChange wireNextSpec)) wireNextCard

/-- THE TIED CARD OF 'dovecotelaw.WirePrints'. -/
def wirePrintsCard : Claim7 := { stood := { row := wirePrintsRow, standIns := [], harness := (true, "e0942bade294e25f3fb58dc169c1482036dd48daa83092847d6171e8b59a60bd"), looks := false }, kinds := [], alts := [], laidByText := true, laidKinds := [.data, .data, .data, .data], laidTests := true, laidLooks := .later }
def WirePrintsCardSaid : Prop := Claim7.holds Tryd.pinned (.plain (OpenSpec.ofChange wirePrintsSpec)) wirePrintsCard

/-- THE TIED CARD OF 'dovecotekeep.RequestsBack'. -/
def requestsBackCard : Claim7 := { stood := { row := requestsBackRow, standIns := [], harness := (true, "e0942bade294e25f3fb58dc169c1482036dd48daa83092847d6171e8b59a60bd"), looks := false }, kinds := [], alts := [], laidByText := true, laidKinds := [.data, .data, .data, .data, .data, .data, .pinned], laidTests := true, laidLooks := .later }
def RequestsBackCardSaid : Prop := Claim7.holds Tryd.pinned (.plain (OpenSpec.ofChange requestsBackSpec)) requestsBackCard

/-- THE SECOND FORM's CARD OF 'dovecotelaw.WireEncodes'. -/
def wireEncodesUptoCard : Claim7 := { stood := { row := wireEncodesUptoRow, standIns := [], harness := (true, "e0942bade294e25f3fb58dc169c1482036dd48daa83092847d6171e8b59a60bd"), looks := false }, kinds := [], alts := [], laidByText := true, laidKinds := [.data, .data, .data, .data], laidTests := true, laidLooks := .later }
def WireEncodesUptoCardSaid : Prop := Claim7.holds Tryd.pinned (.plain (OpenSpec.upto wireEncodesSpec)) wireEncodesUptoCard

/-- THE SECOND FORM's CARD OF 'dovecotelaw.WireNext'. -/
def wireNextUptoCard : Claim7 := { stood := { row := wireNextUptoRow, standIns := [], harness := (true, "e0942bade294e25f3fb58dc169c1482036dd48daa83092847d6171e8b59a60bd"), looks := false }, kinds := [], alts := [], laidByText := true, laidKinds := [.data, .data, .data, .pinned], laidTests := true, laidLooks := .later }
def WireNextUptoCardSaid : Prop := Claim7.holds Tryd.pinned (.plain (OpenSpec.upto wireNextSpec)) wireNextUptoCard

/-- THE SECOND FORM's CARD OF 'dovecotelaw.WirePrints'. -/
def wirePrintsUptoCard : Claim7 := { stood := { row := wirePrintsUptoRow, standIns := [], harness := (true, "e0942bade294e25f3fb58dc169c1482036dd48daa83092847d6171e8b59a60bd"), looks := false }, kinds := [], alts := [], laidByText := true, laidKinds := [.data, .data, .data, .data], laidTests := true, laidLooks := .later }
def WirePrintsUptoCardSaid : Prop := Claim7.holds Tryd.pinned (.plain (OpenSpec.upto wirePrintsSpec)) wirePrintsUptoCard

/-- THE SECOND FORM's CARD OF 'dovecotekeep.RequestsBack'. -/
def requestsBackUptoCard : Claim7 := { stood := { row := requestsBackUptoRow, standIns := [], harness := (true, "e0942bade294e25f3fb58dc169c1482036dd48daa83092847d6171e8b59a60bd"), looks := false }, kinds := [], alts := [], laidByText := true, laidKinds := [.data, .data, .data, .data, .data, .data, .pinned], laidTests := true, laidLooks := .later }
def RequestsBackUptoCardSaid : Prop := Claim7.holds Tryd.pinned (.plain (OpenSpec.upto requestsBackSpec)) requestsBackUptoCard
end Rows
end Go.Proofs.YtdgmifkdfjpcgaaDoor
