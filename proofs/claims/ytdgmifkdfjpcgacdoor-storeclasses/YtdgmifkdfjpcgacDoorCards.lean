/-
  DERIVED. GIVEN WITH THE SEED: THE CARDS: each row of YtdgmifkdfjpcgacDoorRows.lean that lists a variable, with what it lists TIED to the program's text (the seventh form; the later family's looks); each row that meets fmt, with fmt's text TOLD by the authors' own Lean function (tested against real Go, not proved from fmt's source: count such statements apart). THE CARD IS WHAT COUNTS. Prove the row's statement (the work); the ties are given (YtdgmifkdfjpcgacDoorTie.lean); close each card by the builder's one call (the guide's Derived/Test/ToyasCard.lean, 'card_holds'). Laid BY PROGRAM, IN A SANDBOX (cutbox-door.mjs). By AI agents, Wed Nov 11 2026. No macro, syntax, notation, axiom, sorry.
-/
import Derived.Test.YtdgmifkdfjpcgacDoorRows
import GoSem.ClaimSeven
namespace Go.Proofs.YtdgmifkdfjpcgacDoor
namespace Rows

/-- THE TIED CARD OF 'dovecotelaw.StoreClasses'. -/
def storeClassesCard : Claim7 := { stood := { row := storeClassesRow, standIns := [], harness := (true, "18e0dc106f5dcc99552855d193f3185ed2cb4ad27c91a7c846537f22d1e60800"), looks := false }, kinds := [], alts := [], laidByText := true, laidKinds := [.data], laidTests := true, laidLooks := .later }
def StoreClassesCardSaid : Prop := Claim7.holds Tryd.pinned (.plain (OpenSpec.ofChange storeClassesSpec)) storeClassesCard

/-- THE TIED CARD OF 'dovecotelaw.StoreChecks'. -/
def storeChecksCard : Claim7 := { stood := { row := storeChecksRow, standIns := [], harness := (true, "18e0dc106f5dcc99552855d193f3185ed2cb4ad27c91a7c846537f22d1e60800"), looks := false }, kinds := [], alts := [], laidByText := true, laidKinds := [.data], laidTests := true, laidLooks := .later }
def StoreChecksCardSaid : Prop := Claim7.holds Tryd.pinned (.plain (OpenSpec.ofChange storeChecksSpec)) storeChecksCard

/-- THE SECOND FORM's CARD OF 'dovecotelaw.StoreClasses'. -/
def storeClassesUptoCard : Claim7 := { stood := { row := storeClassesUptoRow, standIns := [], harness := (true, "18e0dc106f5dcc99552855d193f3185ed2cb4ad27c91a7c846537f22d1e60800"), looks := false }, kinds := [], alts := [], laidByText := true, laidKinds := [.data], laidTests := true, laidLooks := .later }
def StoreClassesUptoCardSaid : Prop := Claim7.holds Tryd.pinned (.plain (OpenSpec.upto storeClassesSpec)) storeClassesUptoCard

/-- THE SECOND FORM's CARD OF 'dovecotelaw.StoreChecks'. -/
def storeChecksUptoCard : Claim7 := { stood := { row := storeChecksUptoRow, standIns := [], harness := (true, "18e0dc106f5dcc99552855d193f3185ed2cb4ad27c91a7c846537f22d1e60800"), looks := false }, kinds := [], alts := [], laidByText := true, laidKinds := [.data], laidTests := true, laidLooks := .later }
def StoreChecksUptoCardSaid : Prop := Claim7.holds Tryd.pinned (.plain (OpenSpec.upto storeChecksSpec)) storeChecksUptoCard
end Rows
end Go.Proofs.YtdgmifkdfjpcgacDoor
