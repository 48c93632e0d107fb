/-
  NARROWER THAN 'FOR EVERY INPUT', by the rows' own cells (each row's printed sentence says how): StoreGood: laid · SetGets: laid · FarSame: laid · OldestGoes: laid · CasOnce: laid · CasRises: laid · Counts: laid · AddsOnce: laid · DeletesGo: laid.
  DERIVED. THE GIVEN ROWS OF THIS SEAT. 9 by the template 'for every input the law returns true; each argument reads behind the call as it read before'; 0 by the template 'total and deterministic' (their statements: YtdblegdgmjakfaaGreatDoorTotals.lean).
  GIVEN WITH THE SEED: the statements are not yours to turn. If you find one false, say at which input.
  Laid BY PROGRAM, IN A SANDBOX (cutbox-rows.mjs): the forced cells as the released guide's own fill.sh prints them over the translation 6b94a5df72f984e6… (all of the seat's roots in one cut). By AI agents, Wed Nov 11 2026. No macro, syntax, notation, axiom, sorry.
-/
import Derived.Test.YtdblegdgmjakfaaGreatDoorChecked
import GoSem.PinnedTables
import GoSem.Claim
import GoSem.ClaimJoined
import GoSem.ClaimMapViews
import Derived.JoinedTies
import Derived.KernelRfl
namespace Go.Proofs.YtdblegdgmjakfaaGreatDoor
/- THE CELL 'sum', in the pinned program and in every row, IS THE sha256 OF THE DUMP (.gsa) THAT YtdblegdgmjakfaaGreatDoorProg.lean LOADS. Nothing in Lean hashes anything: it is a label: what it is worth is what the hold of that sum in a sandbox is worth. -/
noncomputable def Tryz.pinned : Pinned := { name := "ytdblegdgmjakfaagreatdoor", sum := "6b94a5df72f984e6bf66748451950f961aff53952ae9a12044c9a0c2de1da901", checked := Tryz.checked }
namespace Rows
def none {H : Type} : Left H := { results := [], args := [] }

/- WHAT THE LISTED PACKAGE-LEVEL VARIABLES READ AS WHEN THE CALL BEGINS. Each datum BY PROGRAM (the guide's laid-datum.mjs) off the statement by which the dump's own 'gosem.cut.vars' lays the variable. In a bare row this is a premise. The card (YtdblegdgmjakfaaGreatDoorCards.lean) ties it to the program's text. -/
def laid_math_bits_deBruijn32tab {H : Type} : DataW H := .agg [.lit (.int .u8 0), .lit (.int .u8 1), .lit (.int .u8 28), .lit (.int .u8 2), .lit (.int .u8 29), .lit (.int .u8 14), .lit (.int .u8 24), .lit (.int .u8 3), .lit (.int .u8 30), .lit (.int .u8 22), .lit (.int .u8 20), .lit (.int .u8 15), .lit (.int .u8 25), .lit (.int .u8 17), .lit (.int .u8 4), .lit (.int .u8 8), .lit (.int .u8 31), .lit (.int .u8 27), .lit (.int .u8 13), .lit (.int .u8 23), .lit (.int .u8 21), .lit (.int .u8 19), .lit (.int .u8 16), .lit (.int .u8 7), .lit (.int .u8 26), .lit (.int .u8 12), .lit (.int .u8 18), .lit (.int .u8 6), .lit (.int .u8 11), .lit (.int .u8 5), .lit (.int .u8 10), .lit (.int .u8 9)]
def laid_math_bits_deBruijn64tab {H : Type} : DataW H := .agg [.lit (.int .u8 0), .lit (.int .u8 1), .lit (.int .u8 56), .lit (.int .u8 2), .lit (.int .u8 57), .lit (.int .u8 49), .lit (.int .u8 28), .lit (.int .u8 3), .lit (.int .u8 61), .lit (.int .u8 58), .lit (.int .u8 42), .lit (.int .u8 50), .lit (.int .u8 38), .lit (.int .u8 29), .lit (.int .u8 17), .lit (.int .u8 4), .lit (.int .u8 62), .lit (.int .u8 47), .lit (.int .u8 59), .lit (.int .u8 36), .lit (.int .u8 45), .lit (.int .u8 43), .lit (.int .u8 51), .lit (.int .u8 22), .lit (.int .u8 53), .lit (.int .u8 39), .lit (.int .u8 33), .lit (.int .u8 30), .lit (.int .u8 24), .lit (.int .u8 18), .lit (.int .u8 12), .lit (.int .u8 5), .lit (.int .u8 63), .lit (.int .u8 55), .lit (.int .u8 48), .lit (.int .u8 27), .lit (.int .u8 60), .lit (.int .u8 41), .lit (.int .u8 37), .lit (.int .u8 16), .lit (.int .u8 46), .lit (.int .u8 35), .lit (.int .u8 44), .lit (.int .u8 21), .lit (.int .u8 52), .lit (.int .u8 32), .lit (.int .u8 23), .lit (.int .u8 11), .lit (.int .u8 54), .lit (.int .u8 26), .lit (.int .u8 40), .lit (.int .u8 15), .lit (.int .u8 34), .lit (.int .u8 20), .lit (.int .u8 31), .lit (.int .u8 10), .lit (.int .u8 25), .lit (.int .u8 14), .lit (.int .u8 19), .lit (.int .u8 9), .lit (.int .u8 13), .lit (.int .u8 8), .lit (.int .u8 7), .lit (.int .u8 6)]
def laid_internal_strconv_uint64pow10 {H : Type} : DataW H := .agg [.lit (.int .u64 1), .lit (.int .u64 10), .lit (.int .u64 100), .lit (.int .u64 1000), .lit (.int .u64 10000), .lit (.int .u64 100000), .lit (.int .u64 1000000), .lit (.int .u64 10000000), .lit (.int .u64 100000000), .lit (.int .u64 1000000000), .lit (.int .u64 10000000000), .lit (.int .u64 100000000000), .lit (.int .u64 1000000000000), .lit (.int .u64 10000000000000), .lit (.int .u64 100000000000000), .lit (.int .u64 1000000000000000), .lit (.int .u64 10000000000000000), .lit (.int .u64 100000000000000000), .lit (.int .u64 1000000000000000000), .lit (.int .u64 10000000000000000000)]
def laid_dovecote_store_chunks {H : Type} : DataW H := .agg [.lit (.int .i64 32), .lit (.int .i64 64), .lit (.int .i64 128), .lit (.int .i64 256)]
def laid_unicode_utf8_acceptRanges {H : Type} : DataW H := .agg [.agg [.lit (.int .u8 128), .lit (.int .u8 191)], .agg [.lit (.int .u8 160), .lit (.int .u8 191)], .agg [.lit (.int .u8 128), .lit (.int .u8 159)], .agg [.lit (.int .u8 144), .lit (.int .u8 191)], .agg [.lit (.int .u8 128), .lit (.int .u8 143)], .agg [.lit (.int .u8 0), .lit (.int .u8 0)], .agg [.lit (.int .u8 0), .lit (.int .u8 0)], .agg [.lit (.int .u8 0), .lit (.int .u8 0)], .agg [.lit (.int .u8 0), .lit (.int .u8 0)], .agg [.lit (.int .u8 0), .lit (.int .u8 0)], .agg [.lit (.int .u8 0), .lit (.int .u8 0)], .agg [.lit (.int .u8 0), .lit (.int .u8 0)], .agg [.lit (.int .u8 0), .lit (.int .u8 0)], .agg [.lit (.int .u8 0), .lit (.int .u8 0)], .agg [.lit (.int .u8 0), .lit (.int .u8 0)], .agg [.lit (.int .u8 0), .lit (.int .u8 0)]]
def laid_dovecote_wire_behindName {H : Type} : DataW H := .agg [.lit (.int .i64 0), .lit (.int .i64 0), .lit (.int .i64 4), .lit (.int .i64 4), .lit (.int .i64 4), .lit (.int .i64 4), .lit (.int .i64 4), .lit (.int .i64 5), .lit (.int .i64 1), .lit (.int .i64 2), .lit (.int .i64 2), .lit (.int .i64 2), .lit (.int .i64 0)]
def laid_dovecote_wire_names {H : Type} : DataW H := .agg [.lit (.string []), .lit (.string [103, 101, 116]), .lit (.string [115, 101, 116]), .lit (.string [97, 100, 100]), .lit (.string [114, 101, 112, 108, 97, 99, 101]), .lit (.string [97, 112, 112, 101, 110, 100]), .lit (.string [112, 114, 101, 112, 101, 110, 100]), .lit (.string [99, 97, 115]), .lit (.string [100, 101, 108, 101, 116, 101]), .lit (.string [105, 110, 99, 114]), .lit (.string [100, 101, 99, 114]), .lit (.string [116, 111, 117, 99, 104]), .lit (.string [102, 108, 117, 115, 104])]
/-- One of Go's own tables, pinned by name: the form's constant. -/
def laid_unicode_utf8_first : DataW Unit := Go.Pinned.utf8First

/-- 'dovecotekeep.StoreGood': WHATEVER THE INPUT: true; the input reads as it did. -/
def storeGoodSpec : ChangeSpec := { name := "storeGood", fn := fun _ => fun
  | [d1, d2, d3] => { results := [.lit (.bool true)], args := [d1, d2, d3] }
  | _ => none }
def storeGoodRow : OpenClaim := { program := "ytdblegdgmjakfaagreatdoor", sum := "6b94a5df72f984e6bf66748451950f961aff53952ae9a12044c9a0c2de1da901", func := "dovecote/dovecotekeep.StoreGood", spec := "storeGood", inPlace := ["internal/abi.NoEscape", "internal/bytealg.MakeNoZero", "slices.overlaps[dovecote/api.Item]"], unfollowed := true, recurses := true, named := ["dovecote/store.chunks", "internal/strconv.uint64pow10", "math/bits.deBruijn32tab", "math/bits.deBruijn64tab"], apart := false, laid := [("math/bits.deBruijn32tab", laid_math_bits_deBruijn32tab), ("math/bits.deBruijn64tab", laid_math_bits_deBruijn64tab), ("internal/strconv.uint64pow10", laid_internal_strconv_uint64pow10), ("dovecote/store.chunks", laid_dovecote_store_chunks)] }
def StoreGoodSaid : Prop := storeGoodRow.holds Tryz.pinned (OpenSpec.ofChange storeGoodSpec)

/-- ITS FALSE NEIGHBOUR: 'it returns false'. Refute it at one input. -/
def storeGoodWrong : ChangeSpec := { name := "storeGood", fn := fun _ => fun
  | [d1, d2, d3] => { results := [.lit (.bool false)], args := [d1, d2, d3] }
  | _ => none }
def StoreGoodWrongFalsely : Prop := storeGoodRow.holds Tryz.pinned (OpenSpec.ofChange storeGoodWrong)

/-- 'dovecotekeep.SetGets': WHATEVER THE INPUT: true; the input reads as it did. -/
def setGetsSpec : ChangeSpec := { name := "setGets", fn := fun _ => fun
  | [d1, d2, d3] => { results := [.lit (.bool true)], args := [d1, d2, d3] }
  | _ => none }
def setGetsRow : OpenClaim := { program := "ytdblegdgmjakfaagreatdoor", sum := "6b94a5df72f984e6bf66748451950f961aff53952ae9a12044c9a0c2de1da901", func := "dovecote/dovecotekeep.SetGets", spec := "setGets", inPlace := ["internal/abi.NoEscape", "internal/bytealg.MakeNoZero", "slices.overlaps[dovecote/api.Item]"], unfollowed := true, recurses := true, named := ["dovecote/store.chunks", "internal/strconv.uint64pow10", "math/bits.deBruijn32tab", "math/bits.deBruijn64tab"], apart := false, laid := [("math/bits.deBruijn32tab", laid_math_bits_deBruijn32tab), ("math/bits.deBruijn64tab", laid_math_bits_deBruijn64tab), ("internal/strconv.uint64pow10", laid_internal_strconv_uint64pow10), ("dovecote/store.chunks", laid_dovecote_store_chunks)] }
def SetGetsSaid : Prop := setGetsRow.holds Tryz.pinned (OpenSpec.ofChange setGetsSpec)

/-- ITS FALSE NEIGHBOUR: 'it returns false'. Refute it at one input. -/
def setGetsWrong : ChangeSpec := { name := "setGets", fn := fun _ => fun
  | [d1, d2, d3] => { results := [.lit (.bool false)], args := [d1, d2, d3] }
  | _ => none }
def SetGetsWrongFalsely : Prop := setGetsRow.holds Tryz.pinned (OpenSpec.ofChange setGetsWrong)

/-- 'dovecotekeep.FarSame': WHATEVER THE INPUT: true; the input reads as it did. -/
def farSameSpec : ChangeSpec := { name := "farSame", fn := fun _ => fun
  | [d1, d2] => { results := [.lit (.bool true)], args := [d1, d2] }
  | _ => none }
def farSameRow : OpenClaim := { program := "ytdblegdgmjakfaagreatdoor", sum := "6b94a5df72f984e6bf66748451950f961aff53952ae9a12044c9a0c2de1da901", func := "dovecote/dovecotekeep.FarSame", spec := "farSame", inPlace := ["slices.overlaps[dovecote/api.Item]"], unfollowed := true, recurses := true, named := ["internal/strconv.uint64pow10", "math/bits.deBruijn32tab", "math/bits.deBruijn64tab", "dovecote/store.chunks"], apart := false, laid := [("math/bits.deBruijn32tab", laid_math_bits_deBruijn32tab), ("math/bits.deBruijn64tab", laid_math_bits_deBruijn64tab), ("internal/strconv.uint64pow10", laid_internal_strconv_uint64pow10), ("dovecote/store.chunks", laid_dovecote_store_chunks)] }
def FarSameSaid : Prop := farSameRow.holds Tryz.pinned (OpenSpec.ofChange farSameSpec)

/-- ITS FALSE NEIGHBOUR: 'it returns false'. Refute it at one input. -/
def farSameWrong : ChangeSpec := { name := "farSame", fn := fun _ => fun
  | [d1, d2] => { results := [.lit (.bool false)], args := [d1, d2] }
  | _ => none }
def FarSameWrongFalsely : Prop := farSameRow.holds Tryz.pinned (OpenSpec.ofChange farSameWrong)

/-- 'dovecotekeep.OldestGoes': WHATEVER THE INPUT: true; the input reads as it did. -/
def oldestGoesSpec : ChangeSpec := { name := "oldestGoes", fn := fun _ => fun
  | [d1, d2] => { results := [.lit (.bool true)], args := [d1, d2] }
  | _ => none }
def oldestGoesRow : OpenClaim := { program := "ytdblegdgmjakfaagreatdoor", sum := "6b94a5df72f984e6bf66748451950f961aff53952ae9a12044c9a0c2de1da901", func := "dovecote/dovecotekeep.OldestGoes", spec := "oldestGoes", inPlace := ["slices.overlaps[dovecote/api.Item]"], unfollowed := true, recurses := true, named := ["internal/strconv.uint64pow10", "math/bits.deBruijn32tab", "math/bits.deBruijn64tab", "dovecote/store.chunks"], apart := false, laid := [("math/bits.deBruijn32tab", laid_math_bits_deBruijn32tab), ("math/bits.deBruijn64tab", laid_math_bits_deBruijn64tab), ("internal/strconv.uint64pow10", laid_internal_strconv_uint64pow10), ("dovecote/store.chunks", laid_dovecote_store_chunks)] }
def OldestGoesSaid : Prop := oldestGoesRow.holds Tryz.pinned (OpenSpec.ofChange oldestGoesSpec)

/-- ITS FALSE NEIGHBOUR: 'it returns false'. Refute it at one input. -/
def oldestGoesWrong : ChangeSpec := { name := "oldestGoes", fn := fun _ => fun
  | [d1, d2] => { results := [.lit (.bool false)], args := [d1, d2] }
  | _ => none }
def OldestGoesWrongFalsely : Prop := oldestGoesRow.holds Tryz.pinned (OpenSpec.ofChange oldestGoesWrong)

/-- 'dovecotekeep.CasOnce': WHATEVER THE INPUT: true; the input reads as it did. -/
def casOnceSpec : ChangeSpec := { name := "casOnce", fn := fun _ => fun
  | [d1, d2] => { results := [.lit (.bool true)], args := [d1, d2] }
  | _ => none }
def casOnceRow : OpenClaim := { program := "ytdblegdgmjakfaagreatdoor", sum := "6b94a5df72f984e6bf66748451950f961aff53952ae9a12044c9a0c2de1da901", func := "dovecote/dovecotekeep.CasOnce", spec := "casOnce", inPlace := ["internal/abi.NoEscape", "internal/bytealg.MakeNoZero", "slices.overlaps[dovecote/api.Item]"], unfollowed := true, recurses := true, named := ["dovecote/store.chunks", "internal/strconv.uint64pow10", "math/bits.deBruijn32tab", "math/bits.deBruijn64tab"], apart := false, laid := [("math/bits.deBruijn32tab", laid_math_bits_deBruijn32tab), ("math/bits.deBruijn64tab", laid_math_bits_deBruijn64tab), ("internal/strconv.uint64pow10", laid_internal_strconv_uint64pow10), ("dovecote/store.chunks", laid_dovecote_store_chunks)] }
def CasOnceSaid : Prop := casOnceRow.holds Tryz.pinned (OpenSpec.ofChange casOnceSpec)

/-- ITS FALSE NEIGHBOUR: 'it returns false'. Refute it at one input. -/
def casOnceWrong : ChangeSpec := { name := "casOnce", fn := fun _ => fun
  | [d1, d2] => { results := [.lit (.bool false)], args := [d1, d2] }
  | _ => none }
def CasOnceWrongFalsely : Prop := casOnceRow.holds Tryz.pinned (OpenSpec.ofChange casOnceWrong)

/-- 'dovecotekeep.CasRises': WHATEVER THE INPUT: true; the input reads as it did. -/
def casRisesSpec : ChangeSpec := { name := "casRises", fn := fun _ => fun
  | [d] => { results := [.lit (.bool true)], args := [d] }
  | _ => none }
def casRisesRow : OpenClaim := { program := "ytdblegdgmjakfaagreatdoor", sum := "6b94a5df72f984e6bf66748451950f961aff53952ae9a12044c9a0c2de1da901", func := "dovecote/dovecotekeep.CasRises", spec := "casRises", inPlace := ["internal/bytealg.IndexByteString", "internal/bytealg.CountString", "internal/bytealg.IndexString", "slices.overlaps[dovecote/api.Item]", "internal/abi.NoEscape", "internal/bytealg.MakeNoZero"], unfollowed := true, recurses := true, named := ["dovecote/wire.behindName", "unicode/utf8.first", "unicode/utf8.acceptRanges", "internal/bytealg.MaxLen", "dovecote/wire.names", "dovecote/store.chunks", "internal/strconv.uint64pow10", "math/bits.deBruijn32tab", "math/bits.deBruijn64tab"], apart := false, laid := [("math/bits.deBruijn32tab", laid_math_bits_deBruijn32tab), ("math/bits.deBruijn64tab", laid_math_bits_deBruijn64tab), ("internal/strconv.uint64pow10", laid_internal_strconv_uint64pow10), ("unicode/utf8.acceptRanges", laid_unicode_utf8_acceptRanges), ("dovecote/wire.behindName", laid_dovecote_wire_behindName), ("dovecote/wire.names", laid_dovecote_wire_names), ("dovecote/store.chunks", laid_dovecote_store_chunks), ("unicode/utf8.first", laid_unicode_utf8_first)] }
def CasRisesSaid : Prop := casRisesRow.holds Tryz.pinned (OpenSpec.ofChange casRisesSpec)

/-- ITS FALSE NEIGHBOUR: 'it returns false'. Refute it at one input. -/
def casRisesWrong : ChangeSpec := { name := "casRises", fn := fun _ => fun
  | [d] => { results := [.lit (.bool false)], args := [d] }
  | _ => none }
def CasRisesWrongFalsely : Prop := casRisesRow.holds Tryz.pinned (OpenSpec.ofChange casRisesWrong)

/-- 'dovecotekeep.Counts': WHATEVER THE INPUT: true; the input reads as it did. -/
def countsSpec : ChangeSpec := { name := "counts", fn := fun _ => fun
  | [d1, d2, d3] => { results := [.lit (.bool true)], args := [d1, d2, d3] }
  | _ => none }
def countsRow : OpenClaim := { program := "ytdblegdgmjakfaagreatdoor", sum := "6b94a5df72f984e6bf66748451950f961aff53952ae9a12044c9a0c2de1da901", func := "dovecote/dovecotekeep.Counts", spec := "counts", inPlace := ["slices.overlaps[dovecote/api.Item]"], unfollowed := true, recurses := true, named := ["internal/strconv.uint64pow10", "math/bits.deBruijn32tab", "math/bits.deBruijn64tab", "dovecote/store.chunks"], apart := false, laid := [("math/bits.deBruijn32tab", laid_math_bits_deBruijn32tab), ("math/bits.deBruijn64tab", laid_math_bits_deBruijn64tab), ("internal/strconv.uint64pow10", laid_internal_strconv_uint64pow10), ("dovecote/store.chunks", laid_dovecote_store_chunks)] }
def CountsSaid : Prop := countsRow.holds Tryz.pinned (OpenSpec.ofChange countsSpec)

/-- ITS FALSE NEIGHBOUR: 'it returns false'. Refute it at one input. -/
def countsWrong : ChangeSpec := { name := "counts", fn := fun _ => fun
  | [d1, d2, d3] => { results := [.lit (.bool false)], args := [d1, d2, d3] }
  | _ => none }
def CountsWrongFalsely : Prop := countsRow.holds Tryz.pinned (OpenSpec.ofChange countsWrong)

/-- 'dovecotekeep.AddsOnce': WHATEVER THE INPUT: true; the input reads as it did. -/
def addsOnceSpec : ChangeSpec := { name := "addsOnce", fn := fun _ => fun
  | [d1, d2] => { results := [.lit (.bool true)], args := [d1, d2] }
  | _ => none }
def addsOnceRow : OpenClaim := { program := "ytdblegdgmjakfaagreatdoor", sum := "6b94a5df72f984e6bf66748451950f961aff53952ae9a12044c9a0c2de1da901", func := "dovecote/dovecotekeep.AddsOnce", spec := "addsOnce", inPlace := ["internal/abi.NoEscape", "internal/bytealg.MakeNoZero", "slices.overlaps[dovecote/api.Item]"], unfollowed := true, recurses := true, named := ["dovecote/store.chunks", "internal/strconv.uint64pow10", "math/bits.deBruijn32tab", "math/bits.deBruijn64tab"], apart := false, laid := [("math/bits.deBruijn32tab", laid_math_bits_deBruijn32tab), ("math/bits.deBruijn64tab", laid_math_bits_deBruijn64tab), ("internal/strconv.uint64pow10", laid_internal_strconv_uint64pow10), ("dovecote/store.chunks", laid_dovecote_store_chunks)] }
def AddsOnceSaid : Prop := addsOnceRow.holds Tryz.pinned (OpenSpec.ofChange addsOnceSpec)

/-- ITS FALSE NEIGHBOUR: 'it returns false'. Refute it at one input. -/
def addsOnceWrong : ChangeSpec := { name := "addsOnce", fn := fun _ => fun
  | [d1, d2] => { results := [.lit (.bool false)], args := [d1, d2] }
  | _ => none }
def AddsOnceWrongFalsely : Prop := addsOnceRow.holds Tryz.pinned (OpenSpec.ofChange addsOnceWrong)

/-- 'dovecotekeep.DeletesGo': WHATEVER THE INPUT: true; the input reads as it did. -/
def deletesGoSpec : ChangeSpec := { name := "deletesGo", fn := fun _ => fun
  | [d1, d2] => { results := [.lit (.bool true)], args := [d1, d2] }
  | _ => none }
def deletesGoRow : OpenClaim := { program := "ytdblegdgmjakfaagreatdoor", sum := "6b94a5df72f984e6bf66748451950f961aff53952ae9a12044c9a0c2de1da901", func := "dovecote/dovecotekeep.DeletesGo", spec := "deletesGo", inPlace := ["internal/abi.NoEscape", "internal/bytealg.MakeNoZero", "slices.overlaps[dovecote/api.Item]"], unfollowed := true, recurses := true, named := ["dovecote/store.chunks", "internal/strconv.uint64pow10", "math/bits.deBruijn32tab", "math/bits.deBruijn64tab"], apart := false, laid := [("math/bits.deBruijn32tab", laid_math_bits_deBruijn32tab), ("math/bits.deBruijn64tab", laid_math_bits_deBruijn64tab), ("internal/strconv.uint64pow10", laid_internal_strconv_uint64pow10), ("dovecote/store.chunks", laid_dovecote_store_chunks)] }
def DeletesGoSaid : Prop := deletesGoRow.holds Tryz.pinned (OpenSpec.ofChange deletesGoSpec)

/-- ITS FALSE NEIGHBOUR: 'it returns false'. Refute it at one input. -/
def deletesGoWrong : ChangeSpec := { name := "deletesGo", fn := fun _ => fun
  | [d1, d2] => { results := [.lit (.bool false)], args := [d1, d2] }
  | _ => none }
def DeletesGoWrongFalsely : Prop := deletesGoRow.holds Tryz.pinned (OpenSpec.ofChange deletesGoWrong)

/- THE SECOND FORM. 'bulk': how many values and letters a reading holds, each counted each time it is reached (what is shared counts as often as it is met; a slice's spare places count too). A statement '..UptoSaid' is the law's where the arguments, and the package variables that the reading takes, are together of bulk at most 1048576: NARROWER than '..Said'. Prove '..Said' where nothing that the law and all that it calls make is longer than what came in: it says more and counts as full. Else prove '..UptoSaid'. A law counts once. -/
mutual
def uptoBulk {H : Type} : DataW H → Nat
  | .lit (.string bytes) => bytes.length + 1
  | .lit _ => 1
  | .nil => 1
  | .ptr d => uptoBulk d + 1
  | .slice elems spare => uptoBulkAll elems + uptoBulkAll spare + 1
  | .agg parts => uptoBulkAll parts + 1
  | .iface _ d => uptoBulk d + 1
  | .map entries => uptoBulkEntries entries + 1
  | .held _ => 1
def uptoBulkAll {H : Type} : List (DataW H) → Nat
  | [] => 0
  | d :: r => uptoBulk d + uptoBulkAll r
def uptoBulkEntries {H : Type} : List (Lit × DataW H) → Nat
  | [] => 0
  | x :: r => uptoBulkEntry x + uptoBulkEntries r
def uptoBulkEntry {H : Type} : Lit × DataW H → Nat
  | (.string bytes, d) => bytes.length + uptoBulk d + 1
  | (_, d) => uptoBulk d + 1
 end
def uptoSmall : (H : Type) → List (DataW H) → Bool := fun _ ds => decide (uptoBulkAll ds ≤ 1048576)
def OpenSpec.upto (s : _root_.Go.ChangeSpec) : _root_.Go.OpenSpec := { _root_.Go.OpenSpec.ofChange s with cond := some uptoSmall }

/-- 'dovecotekeep.StoreGood', WHERE WHAT IT READS IS OF BULK AT MOST 1048576: true; the input reads as it did. -/
def storeGoodUptoRow : OpenClaim := { program := "ytdblegdgmjakfaagreatdoor", sum := "6b94a5df72f984e6bf66748451950f961aff53952ae9a12044c9a0c2de1da901", func := "dovecote/dovecotekeep.StoreGood", spec := "storeGood", inPlace := ["internal/abi.NoEscape", "internal/bytealg.MakeNoZero", "slices.overlaps[dovecote/api.Item]"], unfollowed := true, recurses := true, named := ["dovecote/store.chunks", "internal/strconv.uint64pow10", "math/bits.deBruijn32tab", "math/bits.deBruijn64tab"], apart := false, laid := [("math/bits.deBruijn32tab", laid_math_bits_deBruijn32tab), ("math/bits.deBruijn64tab", laid_math_bits_deBruijn64tab), ("internal/strconv.uint64pow10", laid_internal_strconv_uint64pow10), ("dovecote/store.chunks", laid_dovecote_store_chunks)], narrowed := true }
def StoreGoodUptoSaid : Prop := storeGoodUptoRow.holds Tryz.pinned (OpenSpec.upto storeGoodSpec)

/-- 'dovecotekeep.SetGets', WHERE WHAT IT READS IS OF BULK AT MOST 1048576: true; the input reads as it did. -/
def setGetsUptoRow : OpenClaim := { program := "ytdblegdgmjakfaagreatdoor", sum := "6b94a5df72f984e6bf66748451950f961aff53952ae9a12044c9a0c2de1da901", func := "dovecote/dovecotekeep.SetGets", spec := "setGets", inPlace := ["internal/abi.NoEscape", "internal/bytealg.MakeNoZero", "slices.overlaps[dovecote/api.Item]"], unfollowed := true, recurses := true, named := ["dovecote/store.chunks", "internal/strconv.uint64pow10", "math/bits.deBruijn32tab", "math/bits.deBruijn64tab"], apart := false, laid := [("math/bits.deBruijn32tab", laid_math_bits_deBruijn32tab), ("math/bits.deBruijn64tab", laid_math_bits_deBruijn64tab), ("internal/strconv.uint64pow10", laid_internal_strconv_uint64pow10), ("dovecote/store.chunks", laid_dovecote_store_chunks)], narrowed := true }
def SetGetsUptoSaid : Prop := setGetsUptoRow.holds Tryz.pinned (OpenSpec.upto setGetsSpec)

/-- 'dovecotekeep.FarSame', WHERE WHAT IT READS IS OF BULK AT MOST 1048576: true; the input reads as it did. -/
def farSameUptoRow : OpenClaim := { program := "ytdblegdgmjakfaagreatdoor", sum := "6b94a5df72f984e6bf66748451950f961aff53952ae9a12044c9a0c2de1da901", func := "dovecote/dovecotekeep.FarSame", spec := "farSame", inPlace := ["slices.overlaps[dovecote/api.Item]"], unfollowed := true, recurses := true, named := ["internal/strconv.uint64pow10", "math/bits.deBruijn32tab", "math/bits.deBruijn64tab", "dovecote/store.chunks"], apart := false, laid := [("math/bits.deBruijn32tab", laid_math_bits_deBruijn32tab), ("math/bits.deBruijn64tab", laid_math_bits_deBruijn64tab), ("internal/strconv.uint64pow10", laid_internal_strconv_uint64pow10), ("dovecote/store.chunks", laid_dovecote_store_chunks)], narrowed := true }
def FarSameUptoSaid : Prop := farSameUptoRow.holds Tryz.pinned (OpenSpec.upto farSameSpec)

/-- 'dovecotekeep.OldestGoes', WHERE WHAT IT READS IS OF BULK AT MOST 1048576: true; the input reads as it did. -/
def oldestGoesUptoRow : OpenClaim := { program := "ytdblegdgmjakfaagreatdoor", sum := "6b94a5df72f984e6bf66748451950f961aff53952ae9a12044c9a0c2de1da901", func := "dovecote/dovecotekeep.OldestGoes", spec := "oldestGoes", inPlace := ["slices.overlaps[dovecote/api.Item]"], unfollowed := true, recurses := true, named := ["internal/strconv.uint64pow10", "math/bits.deBruijn32tab", "math/bits.deBruijn64tab", "dovecote/store.chunks"], apart := false, laid := [("math/bits.deBruijn32tab", laid_math_bits_deBruijn32tab), ("math/bits.deBruijn64tab", laid_math_bits_deBruijn64tab), ("internal/strconv.uint64pow10", laid_internal_strconv_uint64pow10), ("dovecote/store.chunks", laid_dovecote_store_chunks)], narrowed := true }
def OldestGoesUptoSaid : Prop := oldestGoesUptoRow.holds Tryz.pinned (OpenSpec.upto oldestGoesSpec)

/-- 'dovecotekeep.CasOnce', WHERE WHAT IT READS IS OF BULK AT MOST 1048576: true; the input reads as it did. -/
def casOnceUptoRow : OpenClaim := { program := "ytdblegdgmjakfaagreatdoor", sum := "6b94a5df72f984e6bf66748451950f961aff53952ae9a12044c9a0c2de1da901", func := "dovecote/dovecotekeep.CasOnce", spec := "casOnce", inPlace := ["internal/abi.NoEscape", "internal/bytealg.MakeNoZero", "slices.overlaps[dovecote/api.Item]"], unfollowed := true, recurses := true, named := ["dovecote/store.chunks", "internal/strconv.uint64pow10", "math/bits.deBruijn32tab", "math/bits.deBruijn64tab"], apart := false, laid := [("math/bits.deBruijn32tab", laid_math_bits_deBruijn32tab), ("math/bits.deBruijn64tab", laid_math_bits_deBruijn64tab), ("internal/strconv.uint64pow10", laid_internal_strconv_uint64pow10), ("dovecote/store.chunks", laid_dovecote_store_chunks)], narrowed := true }
def CasOnceUptoSaid : Prop := casOnceUptoRow.holds Tryz.pinned (OpenSpec.upto casOnceSpec)

/-- 'dovecotekeep.CasRises', WHERE WHAT IT READS IS OF BULK AT MOST 1048576: true; the input reads as it did. -/
def casRisesUptoRow : OpenClaim := { program := "ytdblegdgmjakfaagreatdoor", sum := "6b94a5df72f984e6bf66748451950f961aff53952ae9a12044c9a0c2de1da901", func := "dovecote/dovecotekeep.CasRises", spec := "casRises", inPlace := ["internal/bytealg.IndexByteString", "internal/bytealg.CountString", "internal/bytealg.IndexString", "slices.overlaps[dovecote/api.Item]", "internal/abi.NoEscape", "internal/bytealg.MakeNoZero"], unfollowed := true, recurses := true, named := ["dovecote/wire.behindName", "unicode/utf8.first", "unicode/utf8.acceptRanges", "internal/bytealg.MaxLen", "dovecote/wire.names", "dovecote/store.chunks", "internal/strconv.uint64pow10", "math/bits.deBruijn32tab", "math/bits.deBruijn64tab"], apart := false, laid := [("math/bits.deBruijn32tab", laid_math_bits_deBruijn32tab), ("math/bits.deBruijn64tab", laid_math_bits_deBruijn64tab), ("internal/strconv.uint64pow10", laid_internal_strconv_uint64pow10), ("unicode/utf8.acceptRanges", laid_unicode_utf8_acceptRanges), ("dovecote/wire.behindName", laid_dovecote_wire_behindName), ("dovecote/wire.names", laid_dovecote_wire_names), ("dovecote/store.chunks", laid_dovecote_store_chunks), ("unicode/utf8.first", laid_unicode_utf8_first)], narrowed := true }
def CasRisesUptoSaid : Prop := casRisesUptoRow.holds Tryz.pinned (OpenSpec.upto casRisesSpec)

/-- 'dovecotekeep.Counts', WHERE WHAT IT READS IS OF BULK AT MOST 1048576: true; the input reads as it did. -/
def countsUptoRow : OpenClaim := { program := "ytdblegdgmjakfaagreatdoor", sum := "6b94a5df72f984e6bf66748451950f961aff53952ae9a12044c9a0c2de1da901", func := "dovecote/dovecotekeep.Counts", spec := "counts", inPlace := ["slices.overlaps[dovecote/api.Item]"], unfollowed := true, recurses := true, named := ["internal/strconv.uint64pow10", "math/bits.deBruijn32tab", "math/bits.deBruijn64tab", "dovecote/store.chunks"], apart := false, laid := [("math/bits.deBruijn32tab", laid_math_bits_deBruijn32tab), ("math/bits.deBruijn64tab", laid_math_bits_deBruijn64tab), ("internal/strconv.uint64pow10", laid_internal_strconv_uint64pow10), ("dovecote/store.chunks", laid_dovecote_store_chunks)], narrowed := true }
def CountsUptoSaid : Prop := countsUptoRow.holds Tryz.pinned (OpenSpec.upto countsSpec)

/-- 'dovecotekeep.AddsOnce', WHERE WHAT IT READS IS OF BULK AT MOST 1048576: true; the input reads as it did. -/
def addsOnceUptoRow : OpenClaim := { program := "ytdblegdgmjakfaagreatdoor", sum := "6b94a5df72f984e6bf66748451950f961aff53952ae9a12044c9a0c2de1da901", func := "dovecote/dovecotekeep.AddsOnce", spec := "addsOnce", inPlace := ["internal/abi.NoEscape", "internal/bytealg.MakeNoZero", "slices.overlaps[dovecote/api.Item]"], unfollowed := true, recurses := true, named := ["dovecote/store.chunks", "internal/strconv.uint64pow10", "math/bits.deBruijn32tab", "math/bits.deBruijn64tab"], apart := false, laid := [("math/bits.deBruijn32tab", laid_math_bits_deBruijn32tab), ("math/bits.deBruijn64tab", laid_math_bits_deBruijn64tab), ("internal/strconv.uint64pow10", laid_internal_strconv_uint64pow10), ("dovecote/store.chunks", laid_dovecote_store_chunks)], narrowed := true }
def AddsOnceUptoSaid : Prop := addsOnceUptoRow.holds Tryz.pinned (OpenSpec.upto addsOnceSpec)

/-- 'dovecotekeep.DeletesGo', WHERE WHAT IT READS IS OF BULK AT MOST 1048576: true; the input reads as it did. -/
def deletesGoUptoRow : OpenClaim := { program := "ytdblegdgmjakfaagreatdoor", sum := "6b94a5df72f984e6bf66748451950f961aff53952ae9a12044c9a0c2de1da901", func := "dovecote/dovecotekeep.DeletesGo", spec := "deletesGo", inPlace := ["internal/abi.NoEscape", "internal/bytealg.MakeNoZero", "slices.overlaps[dovecote/api.Item]"], unfollowed := true, recurses := true, named := ["dovecote/store.chunks", "internal/strconv.uint64pow10", "math/bits.deBruijn32tab", "math/bits.deBruijn64tab"], apart := false, laid := [("math/bits.deBruijn32tab", laid_math_bits_deBruijn32tab), ("math/bits.deBruijn64tab", laid_math_bits_deBruijn64tab), ("internal/strconv.uint64pow10", laid_internal_strconv_uint64pow10), ("dovecote/store.chunks", laid_dovecote_store_chunks)], narrowed := true }
def DeletesGoUptoSaid : Prop := deletesGoUptoRow.holds Tryz.pinned (OpenSpec.upto deletesGoSpec)

end Rows
end Go.Proofs.YtdblegdgmjakfaaGreatDoor
