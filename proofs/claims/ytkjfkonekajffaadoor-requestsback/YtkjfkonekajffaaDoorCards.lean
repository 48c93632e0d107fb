/-
  DERIVED. GIVEN WITH THE SEED: THE CARDS: each row of YtkjfkonekajffaaDoorRows.lean that lists a variable, with what it lists TIED to the program's text (the seventh form; the later family's looks); each row that meets fmt, with fmt's text TOLD by the authors' own Lean function (tested against real Go, not proved from fmt's source: count such statements apart). THE CARD IS WHAT COUNTS. Prove the row's statement (the work); the ties are given (YtkjfkonekajffaaDoorTie.lean); close each card by the builder's one call (the guide's Derived/Test/ToyasCard.lean, 'card_holds'). Laid BY PROGRAM, IN A SANDBOX (cutbox-door.mjs). By AI agents, Wed Nov 11 2026. No macro, syntax, notation, axiom, sorry.
-/
import Derived.Test.YtkjfkonekajffaaDoorRows
import GoSem.ClaimSeven
namespace Go.Proofs.YtkjfkonekajffaaDoor
namespace Rows

/-- THE TIED CARD OF 'dovecotelaw.WireNext'. -/
def wireNextCard : Claim7 := { stood := { row := wireNextRow, standIns := [], harness := (true, "90dd1d57eb884b05f3e4f3526d30ffe3b6166d4ad1ca3e9200f104abf4dba747"), looks := false }, kinds := [], alts := [], laidByText := true, laidKinds := [.data, .data, .data, .pinned], laidTests := true, laidLooks := .later }
def WireNextCardSaid : Prop := Claim7.holds Tryd.pinned (.plain (OpenSpec.ofChange wireNextSpec)) wireNextCard

/-- THE TIED CARD OF 'dovecotekeep.RequestsBack'. -/
def requestsBackCard : Claim7 := { stood := { row := requestsBackRow, standIns := [], harness := (true, "90dd1d57eb884b05f3e4f3526d30ffe3b6166d4ad1ca3e9200f104abf4dba747"), looks := false }, kinds := [], alts := [], laidByText := true, laidKinds := [.data, .data, .data, .data, .data, .data, .pinned], laidTests := true, laidLooks := .later }
def RequestsBackCardSaid : Prop := Claim7.holds Tryd.pinned (.plain (OpenSpec.ofChange requestsBackSpec)) requestsBackCard

/-- THE TIED CARD OF 'dovecotekeep.RequestsTaken'. -/
def requestsTakenCard : Claim7 := { stood := { row := requestsTakenRow, standIns := [], harness := (true, "90dd1d57eb884b05f3e4f3526d30ffe3b6166d4ad1ca3e9200f104abf4dba747"), looks := false }, kinds := [], alts := [], laidByText := true, laidKinds := [.data, .data, .data, .data, .data, .data, .pinned], laidTests := true, laidLooks := .later }
def RequestsTakenCardSaid : Prop := Claim7.holds Tryd.pinned (.plain (OpenSpec.ofChange requestsTakenSpec)) requestsTakenCard

/-- THE TIED CARD OF 'dovecotekeep.LinesBad'. -/
def linesBadCard : Claim7 := { stood := { row := linesBadRow, standIns := [], harness := (true, "90dd1d57eb884b05f3e4f3526d30ffe3b6166d4ad1ca3e9200f104abf4dba747"), looks := false }, kinds := [], alts := [], laidByText := true, laidKinds := [.data, .data, .data, .pinned], laidTests := true, laidLooks := .later }
def LinesBadCardSaid : Prop := Claim7.holds Tryd.pinned (.plain (OpenSpec.ofChange linesBadSpec)) linesBadCard

/-- THE TIED CARD OF 'dovecotekeep.ValuesBad'. -/
def valuesBadCard : Claim7 := { stood := { row := valuesBadRow, standIns := [], harness := (true, "90dd1d57eb884b05f3e4f3526d30ffe3b6166d4ad1ca3e9200f104abf4dba747"), looks := false }, kinds := [], alts := [], laidByText := true, laidKinds := [.data, .data, .data, .data, .data, .data, .pinned], laidTests := true, laidLooks := .later }
def ValuesBadCardSaid : Prop := Claim7.holds Tryd.pinned (.plain (OpenSpec.ofChange valuesBadSpec)) valuesBadCard

/-- THE SECOND FORM's CARD OF 'dovecotelaw.WireNext'. -/
def wireNextUptoCard : Claim7 := { stood := { row := wireNextUptoRow, standIns := [], harness := (true, "90dd1d57eb884b05f3e4f3526d30ffe3b6166d4ad1ca3e9200f104abf4dba747"), looks := false }, kinds := [], alts := [], laidByText := true, laidKinds := [.data, .data, .data, .pinned], laidTests := true, laidLooks := .later }
def WireNextUptoCardSaid : Prop := Claim7.holds Tryd.pinned (.plain (OpenSpec.upto wireNextSpec)) wireNextUptoCard

/-- THE SECOND FORM's CARD OF 'dovecotekeep.RequestsBack'. -/
def requestsBackUptoCard : Claim7 := { stood := { row := requestsBackUptoRow, standIns := [], harness := (true, "90dd1d57eb884b05f3e4f3526d30ffe3b6166d4ad1ca3e9200f104abf4dba747"), looks := false }, kinds := [], alts := [], laidByText := true, laidKinds := [.data, .data, .data, .data, .data, .data, .pinned], laidTests := true, laidLooks := .later }
def RequestsBackUptoCardSaid : Prop := Claim7.holds Tryd.pinned (.plain (OpenSpec.upto requestsBackSpec)) requestsBackUptoCard

/-- THE SECOND FORM's CARD OF 'dovecotekeep.RequestsTaken'. -/
def requestsTakenUptoCard : Claim7 := { stood := { row := requestsTakenUptoRow, standIns := [], harness := (true, "90dd1d57eb884b05f3e4f3526d30ffe3b6166d4ad1ca3e9200f104abf4dba747"), looks := false }, kinds := [], alts := [], laidByText := true, laidKinds := [.data, .data, .data, .data, .data, .data, .pinned], laidTests := true, laidLooks := .later }
def RequestsTakenUptoCardSaid : Prop := Claim7.holds Tryd.pinned (.plain (OpenSpec.upto requestsTakenSpec)) requestsTakenUptoCard

/-- THE SECOND FORM's CARD OF 'dovecotekeep.LinesBad'. -/
def linesBadUptoCard : Claim7 := { stood := { row := linesBadUptoRow, standIns := [], harness := (true, "90dd1d57eb884b05f3e4f3526d30ffe3b6166d4ad1ca3e9200f104abf4dba747"), looks := false }, kinds := [], alts := [], laidByText := true, laidKinds := [.data, .data, .data, .pinned], laidTests := true, laidLooks := .later }
def LinesBadUptoCardSaid : Prop := Claim7.holds Tryd.pinned (.plain (OpenSpec.upto linesBadSpec)) linesBadUptoCard

/-- THE SECOND FORM's CARD OF 'dovecotekeep.ValuesBad'. -/
def valuesBadUptoCard : Claim7 := { stood := { row := valuesBadUptoRow, standIns := [], harness := (true, "90dd1d57eb884b05f3e4f3526d30ffe3b6166d4ad1ca3e9200f104abf4dba747"), looks := false }, kinds := [], alts := [], laidByText := true, laidKinds := [.data, .data, .data, .data, .data, .data, .pinned], laidTests := true, laidLooks := .later }
def ValuesBadUptoCardSaid : Prop := Claim7.holds Tryd.pinned (.plain (OpenSpec.upto valuesBadSpec)) valuesBadUptoCard
end Rows
end Go.Proofs.YtkjfkonekajffaaDoor
