/-
  DERIVED. GIVEN WITH THE SEED: THE CARDS: each row of YtmjakimpmccedaaDoorRows.lean that lists a variable, with what it lists TIED to the program's text (the seventh form; the later family's looks); each row that meets fmt, with fmt's text TOLD by the authors' own Lean function (tested against real Go, not proved from fmt's source: count such statements apart). THE CARD IS WHAT COUNTS. Prove the row's statement (the work); the ties are given (YtmjakimpmccedaaDoorTie.lean); close each card by the builder's one call (the guide's Derived/Test/ToyasCard.lean, 'card_holds'). Laid BY PROGRAM, IN A SANDBOX (cutbox-door.mjs). By AI agents, Wed Nov 11 2026. No macro, syntax, notation, axiom, sorry.
-/
import Derived.Test.YtmjakimpmccedaaDoorRows
import GoSem.ClaimSeven
namespace Go.Proofs.YtmjakimpmccedaaDoor
namespace Rows

/-- THE TIED CARD OF 'dovecotelaw.SnapEncodes'. -/
def snapEncodesCard : Claim7 := { stood := { row := snapEncodesRow, standIns := [], harness := (true, "f7f0e57daa54e87a8711c97436ed740211ad90fbdf83f22e82cacf11698f4949"), looks := false }, kinds := [], alts := [], laidByText := true, laidKinds := [.data], laidTests := true, laidLooks := .later }
def SnapEncodesCardSaid : Prop := Claim7.holds Tryd.pinned (.plain (OpenSpec.ofChange snapEncodesSpec)) snapEncodesCard

/-- THE TIED CARD OF 'dovecotelaw.SnapDecodes'. -/
def snapDecodesCard : Claim7 := { stood := { row := snapDecodesRow, standIns := [], harness := (true, "f7f0e57daa54e87a8711c97436ed740211ad90fbdf83f22e82cacf11698f4949"), looks := false }, kinds := [], alts := [], laidByText := true, laidKinds := [.data], laidTests := true, laidLooks := .later }
def SnapDecodesCardSaid : Prop := Claim7.holds Tryd.pinned (.plain (OpenSpec.ofChange snapDecodesSpec)) snapDecodesCard

/-- THE TIED CARD OF 'dovecotekeep.SnapsOnce'. -/
def snapsOnceCard : Claim7 := { stood := { row := snapsOnceRow, standIns := [], harness := (true, "f7f0e57daa54e87a8711c97436ed740211ad90fbdf83f22e82cacf11698f4949"), looks := false }, kinds := [], alts := [], laidByText := true, laidKinds := [.data], laidTests := true, laidLooks := .later }
def SnapsOnceCardSaid : Prop := Claim7.holds Tryd.pinned (.plain (OpenSpec.ofChange snapsOnceSpec)) snapsOnceCard

/-- THE SECOND FORM's CARD OF 'dovecotelaw.SnapEncodes'. -/
def snapEncodesUptoCard : Claim7 := { stood := { row := snapEncodesUptoRow, standIns := [], harness := (true, "f7f0e57daa54e87a8711c97436ed740211ad90fbdf83f22e82cacf11698f4949"), looks := false }, kinds := [], alts := [], laidByText := true, laidKinds := [.data], laidTests := true, laidLooks := .later }
def SnapEncodesUptoCardSaid : Prop := Claim7.holds Tryd.pinned (.plain (OpenSpec.upto snapEncodesSpec)) snapEncodesUptoCard

/-- THE SECOND FORM's CARD OF 'dovecotelaw.SnapDecodes'. -/
def snapDecodesUptoCard : Claim7 := { stood := { row := snapDecodesUptoRow, standIns := [], harness := (true, "f7f0e57daa54e87a8711c97436ed740211ad90fbdf83f22e82cacf11698f4949"), looks := false }, kinds := [], alts := [], laidByText := true, laidKinds := [.data], laidTests := true, laidLooks := .later }
def SnapDecodesUptoCardSaid : Prop := Claim7.holds Tryd.pinned (.plain (OpenSpec.upto snapDecodesSpec)) snapDecodesUptoCard

/-- THE SECOND FORM's CARD OF 'dovecotekeep.SnapsOnce'. -/
def snapsOnceUptoCard : Claim7 := { stood := { row := snapsOnceUptoRow, standIns := [], harness := (true, "f7f0e57daa54e87a8711c97436ed740211ad90fbdf83f22e82cacf11698f4949"), looks := false }, kinds := [], alts := [], laidByText := true, laidKinds := [.data], laidTests := true, laidLooks := .later }
def SnapsOnceUptoCardSaid : Prop := Claim7.holds Tryd.pinned (.plain (OpenSpec.upto snapsOnceSpec)) snapsOnceUptoCard
end Rows
end Go.Proofs.YtmjakimpmccedaaDoor
