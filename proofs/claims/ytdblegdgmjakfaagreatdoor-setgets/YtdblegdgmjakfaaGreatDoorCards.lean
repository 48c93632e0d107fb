/-
  DERIVED. GIVEN WITH THE SEED: THE CARDS: each row of YtdblegdgmjakfaaGreatDoorRows.lean that lists a variable, with what it lists TIED to the program's text (the seventh form; the later family's looks); each row that meets fmt, with fmt's text TOLD by the authors' own Lean function (tested against real Go, not proved from fmt's source: count such statements apart). THE CARD IS WHAT COUNTS. Prove the row's statement (the work); the ties are given (YtdblegdgmjakfaaGreatDoorTie.lean); close each card by the builder's one call (the guide's Derived/Test/ToyasCard.lean, 'card_holds'). Laid BY PROGRAM, IN A SANDBOX (cutbox-door.mjs). By AI agents, Wed Nov 11 2026. No macro, syntax, notation, axiom, sorry.
-/
import Derived.Test.YtdblegdgmjakfaaGreatDoorRows
import GoSem.ClaimSeven
namespace Go.Proofs.YtdblegdgmjakfaaGreatDoor
namespace Rows

/-- THE TIED CARD OF 'dovecotekeep.StoreGood'. -/
def storeGoodCard : Claim7 := { stood := { row := storeGoodRow, standIns := [], harness := (true, "d67277b392ab441e10a2ac528577eaaa62f81c72edab44ca9c7fac3b2cc791b9"), looks := false }, kinds := [], alts := [], laidByText := true, laidKinds := [.data, .data, .data, .data], laidTests := true, laidLooks := .later }
def StoreGoodCardSaid : Prop := Claim7.holds Tryz.pinned (.plain (OpenSpec.ofChange storeGoodSpec)) storeGoodCard

/-- THE TIED CARD OF 'dovecotekeep.SetGets'. -/
def setGetsCard : Claim7 := { stood := { row := setGetsRow, standIns := [], harness := (true, "d67277b392ab441e10a2ac528577eaaa62f81c72edab44ca9c7fac3b2cc791b9"), looks := false }, kinds := [], alts := [], laidByText := true, laidKinds := [.data, .data, .data, .data], laidTests := true, laidLooks := .later }
def SetGetsCardSaid : Prop := Claim7.holds Tryz.pinned (.plain (OpenSpec.ofChange setGetsSpec)) setGetsCard

/-- THE TIED CARD OF 'dovecotekeep.FarSame'. -/
def farSameCard : Claim7 := { stood := { row := farSameRow, standIns := [], harness := (true, "d67277b392ab441e10a2ac528577eaaa62f81c72edab44ca9c7fac3b2cc791b9"), looks := false }, kinds := [], alts := [], laidByText := true, laidKinds := [.data, .data, .data, .data], laidTests := true, laidLooks := .later }
def FarSameCardSaid : Prop := Claim7.holds Tryz.pinned (.plain (OpenSpec.ofChange farSameSpec)) farSameCard

/-- THE TIED CARD OF 'dovecotekeep.OldestGoes'. -/
def oldestGoesCard : Claim7 := { stood := { row := oldestGoesRow, standIns := [], harness := (true, "d67277b392ab441e10a2ac528577eaaa62f81c72edab44ca9c7fac3b2cc791b9"), looks := false }, kinds := [], alts := [], laidByText := true, laidKinds := [.data, .data, .data, .data], laidTests := true, laidLooks := .later }
def OldestGoesCardSaid : Prop := Claim7.holds Tryz.pinned (.plain (OpenSpec.ofChange oldestGoesSpec)) oldestGoesCard

/-- THE TIED CARD OF 'dovecotekeep.CasOnce'. -/
def casOnceCard : Claim7 := { stood := { row := casOnceRow, standIns := [], harness := (true, "d67277b392ab441e10a2ac528577eaaa62f81c72edab44ca9c7fac3b2cc791b9"), looks := false }, kinds := [], alts := [], laidByText := true, laidKinds := [.data, .data, .data, .data], laidTests := true, laidLooks := .later }
def CasOnceCardSaid : Prop := Claim7.holds Tryz.pinned (.plain (OpenSpec.ofChange casOnceSpec)) casOnceCard

/-- THE TIED CARD OF 'dovecotekeep.CasRises'. -/
def casRisesCard : Claim7 := { stood := { row := casRisesRow, standIns := [], harness := (true, "d67277b392ab441e10a2ac528577eaaa62f81c72edab44ca9c7fac3b2cc791b9"), looks := false }, kinds := [], alts := [], laidByText := true, laidKinds := [.data, .data, .data, .data, .data, .data, .data, .pinned], laidTests := true, laidLooks := .later }
def CasRisesCardSaid : Prop := Claim7.holds Tryz.pinned (.plain (OpenSpec.ofChange casRisesSpec)) casRisesCard

/-- THE TIED CARD OF 'dovecotekeep.Counts'. -/
def countsCard : Claim7 := { stood := { row := countsRow, standIns := [], harness := (true, "d67277b392ab441e10a2ac528577eaaa62f81c72edab44ca9c7fac3b2cc791b9"), looks := false }, kinds := [], alts := [], laidByText := true, laidKinds := [.data, .data, .data, .data], laidTests := true, laidLooks := .later }
def CountsCardSaid : Prop := Claim7.holds Tryz.pinned (.plain (OpenSpec.ofChange countsSpec)) countsCard

/-- THE TIED CARD OF 'dovecotekeep.AddsOnce'. -/
def addsOnceCard : Claim7 := { stood := { row := addsOnceRow, standIns := [], harness := (true, "d67277b392ab441e10a2ac528577eaaa62f81c72edab44ca9c7fac3b2cc791b9"), looks := false }, kinds := [], alts := [], laidByText := true, laidKinds := [.data, .data, .data, .data], laidTests := true, laidLooks := .later }
def AddsOnceCardSaid : Prop := Claim7.holds Tryz.pinned (.plain (OpenSpec.ofChange addsOnceSpec)) addsOnceCard

/-- THE TIED CARD OF 'dovecotekeep.DeletesGo'. -/
def deletesGoCard : Claim7 := { stood := { row := deletesGoRow, standIns := [], harness := (true, "d67277b392ab441e10a2ac528577eaaa62f81c72edab44ca9c7fac3b2cc791b9"), looks := false }, kinds := [], alts := [], laidByText := true, laidKinds := [.data, .data, .data, .data], laidTests := true, laidLooks := .later }
def DeletesGoCardSaid : Prop := Claim7.holds Tryz.pinned (.plain (OpenSpec.ofChange deletesGoSpec)) deletesGoCard

/-- THE SECOND FORM's CARD OF 'dovecotekeep.StoreGood'. -/
def storeGoodUptoCard : Claim7 := { stood := { row := storeGoodUptoRow, standIns := [], harness := (true, "d67277b392ab441e10a2ac528577eaaa62f81c72edab44ca9c7fac3b2cc791b9"), looks := false }, kinds := [], alts := [], laidByText := true, laidKinds := [.data, .data, .data, .data], laidTests := true, laidLooks := .later }
def StoreGoodUptoCardSaid : Prop := Claim7.holds Tryz.pinned (.plain (OpenSpec.upto storeGoodSpec)) storeGoodUptoCard

/-- THE SECOND FORM's CARD OF 'dovecotekeep.SetGets'. -/
def setGetsUptoCard : Claim7 := { stood := { row := setGetsUptoRow, standIns := [], harness := (true, "d67277b392ab441e10a2ac528577eaaa62f81c72edab44ca9c7fac3b2cc791b9"), looks := false }, kinds := [], alts := [], laidByText := true, laidKinds := [.data, .data, .data, .data], laidTests := true, laidLooks := .later }
def SetGetsUptoCardSaid : Prop := Claim7.holds Tryz.pinned (.plain (OpenSpec.upto setGetsSpec)) setGetsUptoCard

/-- THE SECOND FORM's CARD OF 'dovecotekeep.FarSame'. -/
def farSameUptoCard : Claim7 := { stood := { row := farSameUptoRow, standIns := [], harness := (true, "d67277b392ab441e10a2ac528577eaaa62f81c72edab44ca9c7fac3b2cc791b9"), looks := false }, kinds := [], alts := [], laidByText := true, laidKinds := [.data, .data, .data, .data], laidTests := true, laidLooks := .later }
def FarSameUptoCardSaid : Prop := Claim7.holds Tryz.pinned (.plain (OpenSpec.upto farSameSpec)) farSameUptoCard

/-- THE SECOND FORM's CARD OF 'dovecotekeep.OldestGoes'. -/
def oldestGoesUptoCard : Claim7 := { stood := { row := oldestGoesUptoRow, standIns := [], harness := (true, "d67277b392ab441e10a2ac528577eaaa62f81c72edab44ca9c7fac3b2cc791b9"), looks := false }, kinds := [], alts := [], laidByText := true, laidKinds := [.data, .data, .data, .data], laidTests := true, laidLooks := .later }
def OldestGoesUptoCardSaid : Prop := Claim7.holds Tryz.pinned (.plain (OpenSpec.upto oldestGoesSpec)) oldestGoesUptoCard

/-- THE SECOND FORM's CARD OF 'dovecotekeep.CasOnce'. -/
def casOnceUptoCard : Claim7 := { stood := { row := casOnceUptoRow, standIns := [], harness := (true, "d67277b392ab441e10a2ac528577eaaa62f81c72edab44ca9c7fac3b2cc791b9"), looks := false }, kinds := [], alts := [], laidByText := true, laidKinds := [.data, .data, .data, .data], laidTests := true, laidLooks := .later }
def CasOnceUptoCardSaid : Prop := Claim7.holds Tryz.pinned (.plain (OpenSpec.upto casOnceSpec)) casOnceUptoCard

/-- THE SECOND FORM's CARD OF 'dovecotekeep.CasRises'. -/
def casRisesUptoCard : Claim7 := { stood := { row := casRisesUptoRow, standIns := [], harness := (true, "d67277b392ab441e10a2ac528577eaaa62f81c72edab44ca9c7fac3b2cc791b9"), looks := false }, kinds := [], alts := [], laidByText := true, laidKinds := [.data, .data, .data, .data, .data, .data, .data, .pinned], laidTests := true, laidLooks := .later }
def CasRisesUptoCardSaid : Prop := Claim7.holds Tryz.pinned (.plain (OpenSpec.upto casRisesSpec)) casRisesUptoCard

/-- THE SECOND FORM's CARD OF 'dovecotekeep.Counts'. -/
def countsUptoCard : Claim7 := { stood := { row := countsUptoRow, standIns := [], harness := (true, "d67277b392ab441e10a2ac528577eaaa62f81c72edab44ca9c7fac3b2cc791b9"), looks := false }, kinds := [], alts := [], laidByText := true, laidKinds := [.data, .data, .data, .data], laidTests := true, laidLooks := .later }
def CountsUptoCardSaid : Prop := Claim7.holds Tryz.pinned (.plain (OpenSpec.upto countsSpec)) countsUptoCard

/-- THE SECOND FORM's CARD OF 'dovecotekeep.AddsOnce'. -/
def addsOnceUptoCard : Claim7 := { stood := { row := addsOnceUptoRow, standIns := [], harness := (true, "d67277b392ab441e10a2ac528577eaaa62f81c72edab44ca9c7fac3b2cc791b9"), looks := false }, kinds := [], alts := [], laidByText := true, laidKinds := [.data, .data, .data, .data], laidTests := true, laidLooks := .later }
def AddsOnceUptoCardSaid : Prop := Claim7.holds Tryz.pinned (.plain (OpenSpec.upto addsOnceSpec)) addsOnceUptoCard

/-- THE SECOND FORM's CARD OF 'dovecotekeep.DeletesGo'. -/
def deletesGoUptoCard : Claim7 := { stood := { row := deletesGoUptoRow, standIns := [], harness := (true, "d67277b392ab441e10a2ac528577eaaa62f81c72edab44ca9c7fac3b2cc791b9"), looks := false }, kinds := [], alts := [], laidByText := true, laidKinds := [.data, .data, .data, .data], laidTests := true, laidLooks := .later }
def DeletesGoUptoCardSaid : Prop := Claim7.holds Tryz.pinned (.plain (OpenSpec.upto deletesGoSpec)) deletesGoUptoCard
end Rows
end Go.Proofs.YtdblegdgmjakfaaGreatDoor
