/- A block that is known whole. -/
import Derived.Test.YtogpkbhjobhodaaDoorRows
import Derived.WalkKit
import Derived.ProofKit
import Derived.OpenShut
import Derived.ShutString
import Derived.ChangeOld
import Derived.Below
import Derived.Shelf.Abstract
import Derived.Laws.Rows
namespace Go.Proofs.YtogpkbhjobhodaaDoor
open Go.ChangeShapes Go.WideShapes Go.ChangeAt Go.RowKit

/-- The block b of the world w has type t and these cells. -/
def TB (t : TypeId) (w : World) (b : Nat) (cs : Array Value) : Prop := w.heap[b]? = some (.cells cs t (0, 0))

theorem TB.lt {t : TypeId} {w : World} {b : Nat} {cs : Array Value} (h : TB t w b cs) : b < w.heap.size := by
  rcases Nat.lt_or_ge b w.heap.size with h' | h'
  · exact h'
  · unfold TB at h; rw [Array.getElem?_eq_none h'] at h; cases h
theorem TB.cell {t : TypeId} {w : World} {b : Nat} {cs : Array Value} (h : TB t w b cs) (j : Nat) : w.cell? ⟨b, j, none⟩ = cs[j]? := by
  unfold TB at h
  simp [World.cell?, h]
theorem TB.frozen {t : TypeId} {w : World} {b : Nat} {cs : Array Value} (h : TB t w b cs) (j : Nat) : w.frozen? ⟨b, j, none⟩ = false := frozen_of_row w b j cs t h
theorem TB.later {t : TypeId} {w w1 : World} {b : Nat} {cs : Array Value} (h : TB t w b cs) (hb : Below w.heap.size w w1) : TB t w1 b cs := by
  unfold TB
  rw [hb.block b h.lt]
  exact h
theorem TB.after {t : TypeId} {w w1 : World} {b : Nat} {cs : Array Value} (hb : Below w.heap.size w w1) (h : TB t w b cs) : TB t w1 b cs := h.later hb
theorem TB.set {t : TypeId} {w : World} {b : Nat} {cs : Array Value} (h : TB t w b cs) (j : Nat) (v : Value) : TB t (w.setCell ⟨b, j, none⟩ v) b (cs.setIfInBounds j v) := heap_setCell_same w b j cs t v h
theorem TB.far {t : TypeId} {w : World} {b : Nat} {cs : Array Value} (h : TB t w b cs) (a : Addr) (v : Value) (hne : b ≠ a.block) : TB t (w.setCell a v) b cs := by
  unfold TB
  rw [heap_setCell_other w a b v hne]
  exact h
theorem TB.new (t : TypeId) (w : World) (cs : Array Value) : TB t (w.alloc (.cells cs t)) w.heap.size cs := by
  show (w.heap.push _)[w.heap.size]? = _
  exact Array.getElem?_push_size
theorem TB.alloc {t : TypeId} {w : World} {b : Nat} {cs : Array Value} (h : TB t w b cs) (o : Obj) : TB t (w.alloc o) b cs := h.later ((Below.refl _ _).alloc (Nat.le_refl _) _)
theorem TB.drew {t : TypeId} {w : World} {b : Nat} {cs : Array Value} (h : TB t w b cs) : TB t w.drew b cs := h
end Go.Proofs.YtogpkbhjobhodaaDoor
