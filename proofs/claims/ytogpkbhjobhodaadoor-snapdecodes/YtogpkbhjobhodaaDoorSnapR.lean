/- The contracts of dovecoteref.sevens and withText. -/
import Derived.Test.YtogpkbhjobhodaaDoorSnapT
namespace Go.Proofs.YtogpkbhjobhodaaDoor
open Go.ChangeShapes Go.WideShapes Go.ChangeAt Go.RowKit
set_option linter.unusedVariables false
set_option linter.unusedSimpArgs false

/-- A new row of bytes. -/
def NewPost (l : List UInt8) (w : World) (e : Ending) (w' : World) : Prop := ∃ v', e = .returned v' ∧ RowB w.heap.size w' v' l ∧ Below w.heap.size w w'

theorem row_new (W : World) (ys : List UInt8) (cs : Array Value) (k : Nat) (hk : ys.length = k) (hm : k ≤ maxLen) (hcs : cs.toList = cellsOf ys) : RowB W.heap.size (W.alloc (.cells cs 5)) (.slice (some ⟨W.heap.size, 0, none⟩) k k) ys := by
  subst hk
  refine ⟨by simp [cellsOf], Or.inr ⟨W.heap.size, ys.length, cs, rfl, Nat.le_refl _, heap_alloc_new W _, Nat.le_refl _, hm, ?_, ?_⟩⟩
  · rw [← Array.length_toList, hcs]; simp [cellsOf]
  · rw [hcs, Nat.mul_one, List.take_of_length_le (by simp [cellsOf])]

theorem sev_pos (n : Nat) : 0 < (sev n).length := by rw [sev]; split <;> simp

theorem Grew.below {w0 w w' : World} {v v' : Value} (h : Grew w v w' v') (hb : Below w0.heap.size w0 w) (hv : ∀ k, v.ownBlock = some k → w0.heap.size ≤ k) : Below w0.heap.size w0 w' := hb.grown h.1 hb.size hv

end Go.Proofs.YtogpkbhjobhodaaDoor
