/- The contract of snap.appendText. -/
import Derived.Test.YtogpkbhjobhodaaDoorSnapS
namespace Go.Proofs.YtogpkbhjobhodaaDoor
open Go.ChangeShapes Go.WideShapes Go.ChangeAt Go.RowKit
set_option linter.unusedVariables false
set_option linter.unusedSimpArgs false

/-- The bytes of a text: how many there are, and these. -/
def txt (l : List UInt8) : List UInt8 := sev l.length ++ l

theorem ints_new (W : World) (ns : List Nat) (cs : Array Value) (hcs : cs.toList = ns.map fun m : Nat => Value.int .i64 (m : Int)) (hm : ns.length ≤ maxLen) : IntsAt (W.alloc (.cells cs 3)) (some ⟨W.heap.size, 0, none⟩) ns := by
  refine ⟨hm, Or.inr ⟨W.heap.size, 0, rfl, by simp, fun j hj => ?_⟩⟩
  have h1 : (W.alloc (.cells cs 3)).cell? ⟨W.heap.size, j, none⟩ = cs[j]? := by simp [go_sem]
  rw [Nat.zero_add, h1, ← Array.getElem?_toList, hcs, List.getElem?_map, List.getElem?_eq_getElem hj, List.getD_eq_getElem?_getD, List.getElem?_eq_getElem hj]
  rfl

theorem RowB.ne_new {n : Nat} {w : World} {v : Value} {l : List UInt8} (h : RowB n w v l) : v.ownBlock ≠ some w.heap.size := RowC.ne_new (Or.inl h)

end Go.Proofs.YtogpkbhjobhodaaDoor
