/-
  DERIVED. GIVEN WITH THE SEED: THE CARDS: each row of YtojbhnoiiikdfaaDoorRows.lean that lists a variable, with what it lists TIED to the program's text (the seventh form; the later family's looks); each row that meets fmt, with fmt's text TOLD by the authors' own Lean function (tested against real Go, not proved from fmt's source: count such statements apart). THE CARD IS WHAT COUNTS. Prove the row's statement (the work); the ties are given (YtojbhnoiiikdfaaDoorTie.lean); close each card by the builder's one call (the guide's Derived/Test/ToyasCard.lean, 'card_holds'). Laid BY PROGRAM, IN A SANDBOX (cutbox-door.mjs). By AI agents, Wed Nov 11 2026. No macro, syntax, notation, axiom, sorry.
-/
import Derived.Test.YtojbhnoiiikdfaaDoorRows
import GoSem.ClaimSeven
namespace Go.Proofs.YtojbhnoiiikdfaaDoor
namespace Rows

/-- THE TIED CARD OF 'dovecotelaw.StoreTicks'. -/
def storeTicksCard : Claim7 := { stood := { row := storeTicksRow, standIns := [], harness := (true, "526b21cd327787acdd390c9298a3c0c28e50b0ce360791c24b14f343f4b71a1b"), looks := false }, kinds := [], alts := [], laidByText := true, laidKinds := [.data], laidTests := true, laidLooks := .later }
def StoreTicksCardSaid : Prop := Claim7.holds Tryd.pinned (.plain (OpenSpec.ofChange storeTicksSpec)) storeTicksCard

/-- THE TIED CARD OF 'dovecotelaw.SnapEncodes'. -/
def snapEncodesCard : Claim7 := { stood := { row := snapEncodesRow, standIns := [], harness := (true, "526b21cd327787acdd390c9298a3c0c28e50b0ce360791c24b14f343f4b71a1b"), looks := false }, kinds := [], alts := [], laidByText := true, laidKinds := [.data], laidTests := true, laidLooks := .later }
def SnapEncodesCardSaid : Prop := Claim7.holds Tryd.pinned (.plain (OpenSpec.ofChange snapEncodesSpec)) snapEncodesCard

/-- THE TIED CARD OF 'dovecotelaw.SnapDecodes'. -/
def snapDecodesCard : Claim7 := { stood := { row := snapDecodesRow, standIns := [], harness := (true, "526b21cd327787acdd390c9298a3c0c28e50b0ce360791c24b14f343f4b71a1b"), looks := false }, kinds := [], alts := [], laidByText := true, laidKinds := [.data], laidTests := true, laidLooks := .later }
def SnapDecodesCardSaid : Prop := Claim7.holds Tryd.pinned (.plain (OpenSpec.ofChange snapDecodesSpec)) snapDecodesCard

/-- THE TIED CARD OF 'dovecotekeep.SnapsOnce'. -/
def snapsOnceCard : Claim7 := { stood := { row := snapsOnceRow, standIns := [], harness := (true, "526b21cd327787acdd390c9298a3c0c28e50b0ce360791c24b14f343f4b71a1b"), looks := false }, kinds := [], alts := [], laidByText := true, laidKinds := [.data], laidTests := true, laidLooks := .later }
def SnapsOnceCardSaid : Prop := Claim7.holds Tryd.pinned (.plain (OpenSpec.ofChange snapsOnceSpec)) snapsOnceCard

/-- THE SECOND FORM's CARD OF 'dovecotelaw.StoreTicks'. -/
def storeTicksUptoCard : Claim7 := { stood := { row := storeTicksUptoRow, standIns := [], harness := (true, "526b21cd327787acdd390c9298a3c0c28e50b0ce360791c24b14f343f4b71a1b"), looks := false }, kinds := [], alts := [], laidByText := true, laidKinds := [.data], laidTests := true, laidLooks := .later }
def StoreTicksUptoCardSaid : Prop := Claim7.holds Tryd.pinned (.plain (OpenSpec.upto storeTicksSpec)) storeTicksUptoCard

/-- THE SECOND FORM's CARD OF 'dovecotelaw.SnapEncodes'. -/
def snapEncodesUptoCard : Claim7 := { stood := { row := snapEncodesUptoRow, standIns := [], harness := (true, "526b21cd327787acdd390c9298a3c0c28e50b0ce360791c24b14f343f4b71a1b"), looks := false }, kinds := [], alts := [], laidByText := true, laidKinds := [.data], laidTests := true, laidLooks := .later }
def SnapEncodesUptoCardSaid : Prop := Claim7.holds Tryd.pinned (.plain (OpenSpec.upto snapEncodesSpec)) snapEncodesUptoCard

/-- THE SECOND FORM's CARD OF 'dovecotelaw.SnapDecodes'. -/
def snapDecodesUptoCard : Claim7 := { stood := { row := snapDecodesUptoRow, standIns := [], harness := (true, "526b21cd327787acdd390c9298a3c0c28e50b0ce360791c24b14f343f4b71a1b"), looks := false }, kinds := [], alts := [], laidByText := true, laidKinds := [.data], laidTests := true, laidLooks := .later }
def SnapDecodesUptoCardSaid : Prop := Claim7.holds Tryd.pinned (.plain (OpenSpec.upto snapDecodesSpec)) snapDecodesUptoCard

/-- THE SECOND FORM's CARD OF 'dovecotekeep.SnapsOnce'. -/
def snapsOnceUptoCard : Claim7 := { stood := { row := snapsOnceUptoRow, standIns := [], harness := (true, "526b21cd327787acdd390c9298a3c0c28e50b0ce360791c24b14f343f4b71a1b"), looks := false }, kinds := [], alts := [], laidByText := true, laidKinds := [.data], laidTests := true, laidLooks := .later }
def SnapsOnceUptoCardSaid : Prop := Claim7.holds Tryd.pinned (.plain (OpenSpec.upto snapsOnceSpec)) snapsOnceUptoCard
end Rows
end Go.Proofs.YtojbhnoiiikdfaaDoor
