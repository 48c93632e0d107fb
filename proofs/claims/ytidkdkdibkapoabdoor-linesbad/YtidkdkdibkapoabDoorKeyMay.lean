/- The contract of dovecoteref.KeyMay over the seat's translation: it returns what the plain function on the list of bytes says, at every text. -/
import Derived.Test.YtidkdkdibkapoabDoorKeys
namespace Go.Proofs.YtidkdkdibkapoabDoor
open Go.ChangeShapes Go.WideShapes Go.ChangeAt Go.RowKit

theorem inByte (x : UInt8) : inB (x.toNat : Int) 33 126 = !(badB x) := by
  unfold inB badB
  rw [Bool.eq_iff_iff]
  simp

theorem anyBad_of (s : ByteArray) (k : Nat) (hk : k < s.size) (h : badB s[k] = true) : anyBad s = true := by
  unfold anyBad
  refine List.any_eq_true.2 ⟨s[k], ?_, h⟩
  have : s[k] = s.data.toList[k]'(by simpa using hk) := rfl
  rw [this]
  exact List.getElem_mem _

theorem anyBad_not (s : ByteArray) (h : ∀ k (hk : k < s.size), badB s[k] = false) : anyBad s = false := by
  unfold anyBad
  refine List.any_eq_false.2 fun x hx => ?_
  obtain ⟨j, hj, rfl⟩ := List.mem_iff_getElem.1 hx
  have := h j (by simpa using hj)
  rw [show s[j] = s.data.toList[j] from rfl] at this
  rw [this]
  simp

end Go.Proofs.YtidkdkdibkapoabDoor
