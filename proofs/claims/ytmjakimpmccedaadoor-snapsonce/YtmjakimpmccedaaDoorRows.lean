/-
  NARROWER THAN 'FOR EVERY INPUT', by the rows' own cells (each row's printed sentence says how): SnapEncodes: laid · SnapDecodes: laid · SnapsOnce: laid.
  DERIVED. THE GIVEN ROWS OF THIS SEAT. 3 by the template 'for every input the law returns true; each argument reads behind the call as it read before'; 0 by the template 'total and deterministic' (their statements: YtmjakimpmccedaaDoorTotals.lean).
  GIVEN WITH THE SEED: the statements are not yours to turn. If you find one false, say at which input.
  Laid BY PROGRAM, IN A SANDBOX (cutbox-rows.mjs): the forced cells as the released guide's own fill.sh prints them over the translation a3c374a8ef723cb3… (all of the seat's roots in one cut). By AI agents, Wed Nov 11 2026. No macro, syntax, notation, axiom, sorry.
-/
import Derived.Test.YtmjakimpmccedaaDoorChecked
import GoSem.Claim
import GoSem.ClaimJoined
import GoSem.ClaimMapViews
import Derived.JoinedTies
import Derived.KernelRfl
namespace Go.Proofs.YtmjakimpmccedaaDoor
/- THE CELL 'sum', in the pinned program and in every row, IS THE sha256 OF THE DUMP (.gsa) THAT YtmjakimpmccedaaDoorProg.lean LOADS. Nothing in Lean hashes anything: it is a label: what it is worth is what the hold of that sum in a sandbox is worth. -/
noncomputable def Tryd.pinned : Pinned := { name := "ytmjakimpmccedaadoor", sum := "a3c374a8ef723cb34b24f22f45e0defc06bdc1a0959f5e869cd7fb87a606973d", checked := Tryd.checked }
namespace Rows
def none {H : Type} : Left H := { results := [], args := [] }

/- WHAT THE LISTED PACKAGE-LEVEL VARIABLES READ AS WHEN THE CALL BEGINS. Each datum BY PROGRAM (the guide's laid-datum.mjs) off the statement by which the dump's own 'gosem.cut.vars' lays the variable. In a bare row this is a premise. The card (YtmjakimpmccedaaDoorCards.lean) ties it to the program's text. -/
def laid_dovecote_store_chunks {H : Type} : DataW H := .agg [.lit (.int .i64 32), .lit (.int .i64 64), .lit (.int .i64 128), .lit (.int .i64 256)]

/-- 'dovecotelaw.SnapEncodes': WHATEVER THE INPUT: true; the input reads as it did. -/
def snapEncodesSpec : ChangeSpec := { name := "snapEncodes", fn := fun _ => fun
  | [d] => { results := [.lit (.bool true)], args := [d] }
  | _ => none }
def snapEncodesRow : OpenClaim := { program := "ytmjakimpmccedaadoor", sum := "a3c374a8ef723cb34b24f22f45e0defc06bdc1a0959f5e869cd7fb87a606973d", func := "dovecote/dovecotelaw.SnapEncodes", spec := "snapEncodes", unfollowed := true, recurses := true, named := ["dovecote/store.chunks"], apart := false, laid := [("dovecote/store.chunks", laid_dovecote_store_chunks)] }
def SnapEncodesSaid : Prop := snapEncodesRow.holds Tryd.pinned (OpenSpec.ofChange snapEncodesSpec)

/-- ITS FALSE NEIGHBOUR: 'it returns false'. Refute it at one input. -/
def snapEncodesWrong : ChangeSpec := { name := "snapEncodes", fn := fun _ => fun
  | [d] => { results := [.lit (.bool false)], args := [d] }
  | _ => none }
def SnapEncodesWrongFalsely : Prop := snapEncodesRow.holds Tryd.pinned (OpenSpec.ofChange snapEncodesWrong)

/-- 'dovecotelaw.SnapDecodes': WHATEVER THE INPUT: true; the input reads as it did. -/
def snapDecodesSpec : ChangeSpec := { name := "snapDecodes", fn := fun _ => fun
  | [d] => { results := [.lit (.bool true)], args := [d] }
  | _ => none }
def snapDecodesRow : OpenClaim := { program := "ytmjakimpmccedaadoor", sum := "a3c374a8ef723cb34b24f22f45e0defc06bdc1a0959f5e869cd7fb87a606973d", func := "dovecote/dovecotelaw.SnapDecodes", spec := "snapDecodes", unfollowed := true, recurses := true, named := ["dovecote/store.chunks"], apart := false, laid := [("dovecote/store.chunks", laid_dovecote_store_chunks)] }
def SnapDecodesSaid : Prop := snapDecodesRow.holds Tryd.pinned (OpenSpec.ofChange snapDecodesSpec)

/-- ITS FALSE NEIGHBOUR: 'it returns false'. Refute it at one input. -/
def snapDecodesWrong : ChangeSpec := { name := "snapDecodes", fn := fun _ => fun
  | [d] => { results := [.lit (.bool false)], args := [d] }
  | _ => none }
def SnapDecodesWrongFalsely : Prop := snapDecodesRow.holds Tryd.pinned (OpenSpec.ofChange snapDecodesWrong)

/-- 'dovecotekeep.SnapsOnce': WHATEVER THE INPUT: true; the input reads as it did. -/
def snapsOnceSpec : ChangeSpec := { name := "snapsOnce", fn := fun _ => fun
  | [d] => { results := [.lit (.bool true)], args := [d] }
  | _ => none }
def snapsOnceRow : OpenClaim := { program := "ytmjakimpmccedaadoor", sum := "a3c374a8ef723cb34b24f22f45e0defc06bdc1a0959f5e869cd7fb87a606973d", func := "dovecote/dovecotekeep.SnapsOnce", spec := "snapsOnce", unfollowed := true, recurses := true, named := ["dovecote/store.chunks"], apart := false, laid := [("dovecote/store.chunks", laid_dovecote_store_chunks)] }
def SnapsOnceSaid : Prop := snapsOnceRow.holds Tryd.pinned (OpenSpec.ofChange snapsOnceSpec)

/-- ITS FALSE NEIGHBOUR: 'it returns false'. Refute it at one input. -/
def snapsOnceWrong : ChangeSpec := { name := "snapsOnce", fn := fun _ => fun
  | [d] => { results := [.lit (.bool false)], args := [d] }
  | _ => none }
def SnapsOnceWrongFalsely : Prop := snapsOnceRow.holds Tryd.pinned (OpenSpec.ofChange snapsOnceWrong)

/- THE SECOND FORM. 'bulk': how many values and letters a reading holds, each counted each time it is reached (what is shared counts as often as it is met; a slice's spare places count too). A statement '..UptoSaid' is the law's where the arguments, and the package variables that the reading takes, are together of bulk at most 1048576: NARROWER than '..Said'. Prove '..Said' where nothing that the law and all that it calls make is longer than what came in: it says more and counts as full. Else prove '..UptoSaid'. A law counts once. -/
mutual
def uptoBulk {H : Type} : DataW H → Nat
  | .lit (.string bytes) => bytes.length + 1
  | .lit _ => 1
  | .nil => 1
  | .ptr d => uptoBulk d + 1
  | .slice elems spare => uptoBulkAll elems + uptoBulkAll spare + 1
  | .agg parts => uptoBulkAll parts + 1
  | .iface _ d => uptoBulk d + 1
  | .map entries => uptoBulkEntries entries + 1
  | .held _ => 1
def uptoBulkAll {H : Type} : List (DataW H) → Nat
  | [] => 0
  | d :: r => uptoBulk d + uptoBulkAll r
def uptoBulkEntries {H : Type} : List (Lit × DataW H) → Nat
  | [] => 0
  | x :: r => uptoBulkEntry x + uptoBulkEntries r
def uptoBulkEntry {H : Type} : Lit × DataW H → Nat
  | (.string bytes, d) => bytes.length + uptoBulk d + 1
  | (_, d) => uptoBulk d + 1
 end
def uptoSmall : (H : Type) → List (DataW H) → Bool := fun _ ds => decide (uptoBulkAll ds ≤ 1048576)
def OpenSpec.upto (s : _root_.Go.ChangeSpec) : _root_.Go.OpenSpec := { _root_.Go.OpenSpec.ofChange s with cond := some uptoSmall }

/-- 'dovecotelaw.SnapEncodes', WHERE WHAT IT READS IS OF BULK AT MOST 1048576: true; the input reads as it did. -/
def snapEncodesUptoRow : OpenClaim := { program := "ytmjakimpmccedaadoor", sum := "a3c374a8ef723cb34b24f22f45e0defc06bdc1a0959f5e869cd7fb87a606973d", func := "dovecote/dovecotelaw.SnapEncodes", spec := "snapEncodes", unfollowed := true, recurses := true, named := ["dovecote/store.chunks"], apart := false, laid := [("dovecote/store.chunks", laid_dovecote_store_chunks)], narrowed := true }
def SnapEncodesUptoSaid : Prop := snapEncodesUptoRow.holds Tryd.pinned (OpenSpec.upto snapEncodesSpec)

/-- 'dovecotelaw.SnapDecodes', WHERE WHAT IT READS IS OF BULK AT MOST 1048576: true; the input reads as it did. -/
def snapDecodesUptoRow : OpenClaim := { program := "ytmjakimpmccedaadoor", sum := "a3c374a8ef723cb34b24f22f45e0defc06bdc1a0959f5e869cd7fb87a606973d", func := "dovecote/dovecotelaw.SnapDecodes", spec := "snapDecodes", unfollowed := true, recurses := true, named := ["dovecote/store.chunks"], apart := false, laid := [("dovecote/store.chunks", laid_dovecote_store_chunks)], narrowed := true }
def SnapDecodesUptoSaid : Prop := snapDecodesUptoRow.holds Tryd.pinned (OpenSpec.upto snapDecodesSpec)

/-- 'dovecotekeep.SnapsOnce', WHERE WHAT IT READS IS OF BULK AT MOST 1048576: true; the input reads as it did. -/
def snapsOnceUptoRow : OpenClaim := { program := "ytmjakimpmccedaadoor", sum := "a3c374a8ef723cb34b24f22f45e0defc06bdc1a0959f5e869cd7fb87a606973d", func := "dovecote/dovecotekeep.SnapsOnce", spec := "snapsOnce", unfollowed := true, recurses := true, named := ["dovecote/store.chunks"], apart := false, laid := [("dovecote/store.chunks", laid_dovecote_store_chunks)], narrowed := true }
def SnapsOnceUptoSaid : Prop := snapsOnceUptoRow.holds Tryd.pinned (OpenSpec.upto snapsOnceSpec)

end Rows
end Go.Proofs.YtmjakimpmccedaaDoor
