/-
  NARROWER THAN 'FOR EVERY INPUT', by the rows' own cells (each row's printed sentence says how): StoreClasses: laid · StoreChecks: laid.
  DERIVED. THE GIVEN ROWS OF THIS SEAT. 2 by the template 'for every input the law returns true; each argument reads behind the call as it read before'; 0 by the template 'total and deterministic' (their statements: YtdgmifkdfjpcgacDoorTotals.lean).
  GIVEN WITH THE SEED: the statements are not yours to turn. If you find one false, say at which input.
  Laid BY PROGRAM, IN A SANDBOX (cutbox-rows.mjs): the forced cells as the released guide's own fill.sh prints them over the translation e580835f45a10264… (all of the seat's roots in one cut). By AI agents, Wed Nov 11 2026. No macro, syntax, notation, axiom, sorry.
-/
import Derived.Test.YtdgmifkdfjpcgacDoorChecked
import GoSem.Claim
import GoSem.ClaimJoined
import GoSem.ClaimMapViews
import Derived.JoinedTies
import Derived.KernelRfl
namespace Go.Proofs.YtdgmifkdfjpcgacDoor
/- THE CELL 'sum', in the pinned program and in every row, IS THE sha256 OF THE DUMP (.gsa) THAT YtdgmifkdfjpcgacDoorProg.lean LOADS. Nothing in Lean hashes anything: it is a label: what it is worth is what the hold of that sum in a sandbox is worth. -/
noncomputable def Tryd.pinned : Pinned := { name := "ytdgmifkdfjpcgacdoor", sum := "e580835f45a10264acb771c773da4a7acb80acfe58a00c479f18faceb021c745", checked := Tryd.checked }
namespace Rows
def none {H : Type} : Left H := { results := [], args := [] }

/- WHAT THE LISTED PACKAGE-LEVEL VARIABLES READ AS WHEN THE CALL BEGINS. Each datum BY PROGRAM (the guide's laid-datum.mjs) off the statement by which the dump's own 'gosem.cut.vars' lays the variable. In a bare row this is a premise. The card (YtdgmifkdfjpcgacDoorCards.lean) ties it to the program's text. -/
def laid_dovecote_store_chunks {H : Type} : DataW H := .agg [.lit (.int .i64 32), .lit (.int .i64 64), .lit (.int .i64 128), .lit (.int .i64 256)]

/-- 'dovecotelaw.StoreClasses': WHATEVER THE INPUT: true; the input reads as it did. -/
def storeClassesSpec : ChangeSpec := { name := "storeClasses", fn := fun _ => fun
  | [d1, d2] => { results := [.lit (.bool true)], args := [d1, d2] }
  | _ => none }
def storeClassesRow : OpenClaim := { program := "ytdgmifkdfjpcgacdoor", sum := "e580835f45a10264acb771c773da4a7acb80acfe58a00c479f18faceb021c745", func := "dovecote/dovecotelaw.StoreClasses", spec := "storeClasses", named := ["dovecote/store.chunks"], apart := false, laid := [("dovecote/store.chunks", laid_dovecote_store_chunks)] }
def StoreClassesSaid : Prop := storeClassesRow.holds Tryd.pinned (OpenSpec.ofChange storeClassesSpec)

/-- ITS FALSE NEIGHBOUR: 'it returns false'. Refute it at one input. -/
def storeClassesWrong : ChangeSpec := { name := "storeClasses", fn := fun _ => fun
  | [d1, d2] => { results := [.lit (.bool false)], args := [d1, d2] }
  | _ => none }
def StoreClassesWrongFalsely : Prop := storeClassesRow.holds Tryd.pinned (OpenSpec.ofChange storeClassesWrong)

/-- 'dovecotelaw.StoreChecks': WHATEVER THE INPUT: true; the input reads as it did. -/
def storeChecksSpec : ChangeSpec := { name := "storeChecks", fn := fun _ => fun
  | [d] => { results := [.lit (.bool true)], args := [d] }
  | _ => none }
def storeChecksRow : OpenClaim := { program := "ytdgmifkdfjpcgacdoor", sum := "e580835f45a10264acb771c773da4a7acb80acfe58a00c479f18faceb021c745", func := "dovecote/dovecotelaw.StoreChecks", spec := "storeChecks", unfollowed := true, recurses := true, named := ["dovecote/store.chunks"], apart := false, laid := [("dovecote/store.chunks", laid_dovecote_store_chunks)] }
def StoreChecksSaid : Prop := storeChecksRow.holds Tryd.pinned (OpenSpec.ofChange storeChecksSpec)

/-- ITS FALSE NEIGHBOUR: 'it returns false'. Refute it at one input. -/
def storeChecksWrong : ChangeSpec := { name := "storeChecks", fn := fun _ => fun
  | [d] => { results := [.lit (.bool false)], args := [d] }
  | _ => none }
def StoreChecksWrongFalsely : Prop := storeChecksRow.holds Tryd.pinned (OpenSpec.ofChange storeChecksWrong)

/- THE SECOND FORM. 'bulk': how many values and letters a reading holds, each counted each time it is reached (what is shared counts as often as it is met; a slice's spare places count too). A statement '..UptoSaid' is the law's where the arguments, and the package variables that the reading takes, are together of bulk at most 1048576: NARROWER than '..Said'. Prove '..Said' where nothing that the law and all that it calls make is longer than what came in: it says more and counts as full. Else prove '..UptoSaid'. A law counts once. -/
mutual
def uptoBulk {H : Type} : DataW H → Nat
  | .lit (.string bytes) => bytes.length + 1
  | .lit _ => 1
  | .nil => 1
  | .ptr d => uptoBulk d + 1
  | .slice elems spare => uptoBulkAll elems + uptoBulkAll spare + 1
  | .agg parts => uptoBulkAll parts + 1
  | .iface _ d => uptoBulk d + 1
  | .map entries => uptoBulkEntries entries + 1
  | .held _ => 1
def uptoBulkAll {H : Type} : List (DataW H) → Nat
  | [] => 0
  | d :: r => uptoBulk d + uptoBulkAll r
def uptoBulkEntries {H : Type} : List (Lit × DataW H) → Nat
  | [] => 0
  | x :: r => uptoBulkEntry x + uptoBulkEntries r
def uptoBulkEntry {H : Type} : Lit × DataW H → Nat
  | (.string bytes, d) => bytes.length + uptoBulk d + 1
  | (_, d) => uptoBulk d + 1
 end
def uptoSmall : (H : Type) → List (DataW H) → Bool := fun _ ds => decide (uptoBulkAll ds ≤ 1048576)
def OpenSpec.upto (s : _root_.Go.ChangeSpec) : _root_.Go.OpenSpec := { _root_.Go.OpenSpec.ofChange s with cond := some uptoSmall }

/-- 'dovecotelaw.StoreClasses', WHERE WHAT IT READS IS OF BULK AT MOST 1048576: true; the input reads as it did. -/
def storeClassesUptoRow : OpenClaim := { program := "ytdgmifkdfjpcgacdoor", sum := "e580835f45a10264acb771c773da4a7acb80acfe58a00c479f18faceb021c745", func := "dovecote/dovecotelaw.StoreClasses", spec := "storeClasses", named := ["dovecote/store.chunks"], apart := false, laid := [("dovecote/store.chunks", laid_dovecote_store_chunks)], narrowed := true }
def StoreClassesUptoSaid : Prop := storeClassesUptoRow.holds Tryd.pinned (OpenSpec.upto storeClassesSpec)

/-- 'dovecotelaw.StoreChecks', WHERE WHAT IT READS IS OF BULK AT MOST 1048576: true; the input reads as it did. -/
def storeChecksUptoRow : OpenClaim := { program := "ytdgmifkdfjpcgacdoor", sum := "e580835f45a10264acb771c773da4a7acb80acfe58a00c479f18faceb021c745", func := "dovecote/dovecotelaw.StoreChecks", spec := "storeChecks", unfollowed := true, recurses := true, named := ["dovecote/store.chunks"], apart := false, laid := [("dovecote/store.chunks", laid_dovecote_store_chunks)], narrowed := true }
def StoreChecksUptoSaid : Prop := storeChecksUptoRow.holds Tryd.pinned (OpenSpec.upto storeChecksSpec)

end Rows
end Go.Proofs.YtdgmifkdfjpcgacDoor
