/- The bytes of a text that is converted. -/
import Derived.Test.YtogpkbhjobhodaaDoorFRef
import Derived.Lib.ConvBytes
namespace Go.Proofs.YtogpkbhjobhodaaDoor
open Go.ChangeShapes Go.WideShapes Go.ChangeAt Go.RowKit
set_option linter.unusedVariables false
set_option linter.unusedSimpArgs false

/-- The bytes of '[]byte(s)'. -/
theorem bytes_of (w : World) (s : List UInt8) (hs : s.length ≤ maxLen) : BytesAt (Lib.bytesWorld w 5 (strB s)) (some ⟨w.heap.size, 0, none⟩) s ∧ s.length ≤ grownCap w s.length 0 5 ∧ grownCap w s.length 0 5 ≤ maxLen := by
  refine ⟨⟨hs, Or.inr ⟨w.heap.size, 0, rfl, by rw [Lib.bytesWorld_size]; omega, fun j hj => ?_⟩⟩, grownCap_ge w s.length 0 5, grownCap_le_maxLen w s.length 0 5 hs⟩
  rw [Nat.zero_add, Lib.bytesWorld_cell w 5 (strB s) j (by exact hj)]
  rfl
theorem bytes_below (w : World) (s : ByteArray) : Below w.heap.size w (Lib.bytesWorld w 5 s) := ⟨rfl, rfl, rfl, by rw [Lib.bytesWorld_size]; omega, fun k hk => Lib.bytesWorld_at_old w 5 s k hk⟩

end Go.Proofs.YtogpkbhjobhodaaDoor
