/- The contract of dovecoteref.RequestFault: it answers what wire.Check answers, at every request. -/
import Derived.Test.YtidkdkdibkapoabDoorCheckfit
namespace Go.Proofs.YtidkdkdibkapoabDoor
open Go.ChangeShapes Go.WideShapes Go.ChangeAt Go.RowKit
set_option linter.unusedVariables false

def keysOK (kind : Int) (keys : List ByteArray) : Bool := if kind = 1 then inB keys.length 1 10 && !(noKeyIn keys) else decide (keys.length = 0)
def keyBad (kind : Int) (key : ByteArray) : Bool := (inB kind 2 11 && !(keyB key)) || (!(inB kind 2 11) && !(key.toList.isEmpty))
def fieldsBad (kind flags exp : Int) (value : ByteArray) : Bool := !(inB kind 2 7) && (((flags != 0) || !(value.toList.isEmpty)) || ((kind != 11) && (exp != 0)))
def nBad (kind nn : Int) : Bool := (((kind != 7) && (kind != 9)) && (kind != 10)) && (nn != 0)
def quietBad (kind : Int) (quiet : Bool) : Bool := quiet && ((kind == 1) || (kind == 13))
def rangeBad (flags exp nn : Int) : Bool := (!(inB flags 0 65535) || !(inB exp 0 1099511627776)) || !(inB nn 0 1099511627776)

theorem keysFit_eq (kind : Int) (key : ByteArray) (keys : List ByteArray) : keysFitB kind key keys = (keysOK kind keys && !(keyBad kind key)) := by
  unfold keysFitB keysOK keyBad
  by_cases h : kind = 1
  · subst h
    rw [show inB 1 2 11 = false from by decide]
    cases key.toList.isEmpty <;> simp
  · cases inB kind 2 11 <;> cases key.toList.isEmpty <;> cases keyB key <;> simp [h]

theorem fieldsFit_eq (kind flags exp nn : Int) (value : ByteArray) (quiet : Bool) : fieldsFitB kind flags exp nn value quiet = (!(fieldsBad kind flags exp value) && (!(nBad kind nn) && !(quietBad kind quiet))) := by
  rw [fieldsFit_of kind flags exp nn value quiet _ _ _ _ rfl rfl rfl rfl]
  unfold fieldsBad nBad quietBad hasExpB hasNB mayQuietB
  by_cases h1 : kind = 1
  · subst h1
    cases value.toList.isEmpty <;> cases flags != 0 <;> cases exp != 0 <;> cases nn != 0 <;> cases quiet <;> rfl
  by_cases h13 : kind = 13
  · subst h13
    cases value.toList.isEmpty <;> cases flags != 0 <;> cases exp != 0 <;> cases nn != 0 <;> cases quiet <;> rfl
  rw [show (kind == 1) = false from by simp [h1], show (kind == 13) = false from by simp [h13], decide_eq_false h1, decide_eq_false h13]
  by_cases h11 : kind = 11
  · subst h11
    cases value.toList.isEmpty <;> cases flags != 0 <;> cases exp != 0 <;> cases nn != 0 <;> cases quiet <;> rfl
  rw [show (kind != 11) = true from by simp [h11], decide_eq_false h11]
  by_cases h7 : kind = 7
  · subst h7
    cases value.toList.isEmpty <;> cases flags != 0 <;> cases exp != 0 <;> cases nn != 0 <;> cases quiet <;> rfl
  by_cases h9 : kind = 9
  · subst h9
    cases value.toList.isEmpty <;> cases flags != 0 <;> cases exp != 0 <;> cases nn != 0 <;> cases quiet <;> rfl
  by_cases h10 : kind = 10
  · subst h10
    cases value.toList.isEmpty <;> cases flags != 0 <;> cases exp != 0 <;> cases nn != 0 <;> cases quiet <;> rfl
  rw [show (kind != 7) = true from by simp [h7], show (kind != 9) = true from by simp [h9], show (kind != 10) = true from by simp [h10], decide_eq_false h7, decide_eq_false h9, decide_eq_false h10]
  cases inB kind 2 7 <;> cases value.toList.isEmpty <;> cases flags != 0 <;> cases exp != 0 <;> cases nn != 0 <;> cases quiet <;> rfl

theorem range_eq (flags exp nn : Int) : (outB flags 65535 || (outB exp 1099511627776 || outB nn 1099511627776)) = rangeBad flags exp nn := by
  have h : ∀ n m : Int, outB n m = !(inB n 0 m) := fun n m => by
    unfold outB inB
    rw [Bool.eq_iff_iff]
    simp
  unfold rangeBad
  rw [h, h, h]
  cases inB flags 0 65535 <;> cases inB exp 0 1099511627776 <;> cases inB nn 0 1099511627776 <;> rfl

theorem check_eq (kind : Int) (key : ByteArray) (keys : List ByteArray) (flags exp nn : Int) (value : ByteArray) (quiet : Bool) : checkN kind key keys flags exp nn value quiet =
    if inB kind 1 13 = false then 3 else if keysOK kind keys = false then 4 else if keyBad kind key = true then 4 else if fieldsBad kind flags exp value = true then 4 else if nBad kind nn = true then 4 else if quietBad kind quiet = true then 4
    else if rangeBad flags exp nn = true then 2 else if 200 < value.size then 1 else 0 := by
  unfold checkN
  rw [keysFit_eq, fieldsFit_eq, range_eq]
  cases inB kind 1 13 <;> cases keysOK kind keys <;> cases keyBad kind key <;> cases fieldsBad kind flags exp value <;> cases nBad kind nn <;> cases quietBad kind quiet <;> rfl

end Go.Proofs.YtidkdkdibkapoabDoor
