/-
  DERIVED. GIVEN WITH THE SEED: THE CARDS: each row of YtogpkbhjobhodaaDoorRows.lean that lists a variable, with what it lists TIED to the program's text (the seventh form; the later family's looks); each row that meets fmt, with fmt's text TOLD by the authors' own Lean function (tested against real Go, not proved from fmt's source: count such statements apart). THE CARD IS WHAT COUNTS. Prove the row's statement (the work); the ties are given (YtogpkbhjobhodaaDoorTie.lean); close each card by the builder's one call (the guide's Derived/Test/ToyasCard.lean, 'card_holds'). Laid BY PROGRAM, IN A SANDBOX (cutbox-door.mjs). By AI agents, Wed Nov 11 2026. No macro, syntax, notation, axiom, sorry.
-/
import Derived.Test.YtogpkbhjobhodaaDoorRows
import GoSem.ClaimSeven
namespace Go.Proofs.YtogpkbhjobhodaaDoor
namespace Rows

/-- THE TIED CARD OF 'dovecotelaw.SnapDecodes'. -/
def snapDecodesCard : Claim7 := { stood := { row := snapDecodesRow, standIns := [], harness := (true, "ef2ccfbdb2de96cab7169968ce9336d42a99c32ad103f5ce7e7bb5419df5080a"), looks := false }, kinds := [], alts := [], laidByText := true, laidKinds := [.data], laidTests := true, laidLooks := .later }
def SnapDecodesCardSaid : Prop := Claim7.holds Tryd.pinned (.plain (OpenSpec.ofChange snapDecodesSpec)) snapDecodesCard

/-- THE SECOND FORM's CARD OF 'dovecotelaw.SnapDecodes'. -/
def snapDecodesUptoCard : Claim7 := { stood := { row := snapDecodesUptoRow, standIns := [], harness := (true, "ef2ccfbdb2de96cab7169968ce9336d42a99c32ad103f5ce7e7bb5419df5080a"), looks := false }, kinds := [], alts := [], laidByText := true, laidKinds := [.data], laidTests := true, laidLooks := .later }
def SnapDecodesUptoCardSaid : Prop := Claim7.holds Tryd.pinned (.plain (OpenSpec.upto snapDecodesSpec)) snapDecodesUptoCard
end Rows
end Go.Proofs.YtogpkbhjobhodaaDoor
