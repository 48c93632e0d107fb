/- Rows of items. -/
import Derived.Test.YtogpkbhjobhodaaDoorSItems
import Derived.Test.YtogpkbhjobhodaaDoorTB
namespace Go.Proofs.YtogpkbhjobhodaaDoor
open Go.ChangeShapes Go.WideShapes Go.ChangeAt Go.RowKit
set_option linter.unusedVariables false
set_option linter.unusedSimpArgs false

theorem infoItem : (Tryd.prog.info? 49).map (fun i => (i.zero, i.size, i.bytes)) = some (some (.agg #[.string ByteArray.empty, .int .i64 0, .int .i64 0, .int .i64 0, .int .i64 0, .string ByteArray.empty, .bool false, .int .i64 0, .int .i64 0]), 9, 88) := by kernel_rfl

/-- The items j < k of the row that is made. -/
def RowI (l : List ItemR) (k : Nat) (cur : Array Value) : Prop :=
  ∀ j, j < k → cur[j * 9]? = some (.string (l.getD j default).key) ∧ cur[j * 9 + 1]? = some (.int .i64 (l.getD j default).flags) ∧ cur[j * 9 + 2]? = some (.int .i64 (l.getD j default).until_) ∧ cur[j * 9 + 3]? = some (.int .i64 (l.getD j default).cas) ∧ cur[j * 9 + 4]? = some (.int .i64 (l.getD j default).used) ∧
    cur[j * 9 + 5]? = some (.string (l.getD j default).value) ∧ cur[j * 9 + 6]? = some (.bool (l.getD j default).far) ∧ cur[j * 9 + 7]? = some (.int .i64 (l.getD j default).page) ∧ cur[j * 9 + 8]? = some (.int .i64 (l.getD j default).at_)

theorem cell_rowI {w : World} {H : Nat} {cur : Array Value} (h : w.heap[H]? = some (.cells cur 49 (0, 0))) (j : Nat) : w.cell? ⟨H, j, none⟩ = cur[j]? := by simp [World.cell?, h]

theorem row_items {l : List ItemR} {H : Nat} {cur : Array Value} {w w' : World} (hm : l.length ≤ maxLen) (hHl : H < w.heap.size) (hcur : w.heap[H]? = some (.cells cur 49 (0, 0))) (hP : RowI l l.length cur) (hs : w.heap.size ≤ w'.heap.size) (hw : w'.heap[H]? = w.heap[H]?) : ItemsAt w' (some ⟨H, 0, none⟩) l := by
  have ce : ∀ o, w'.cell? ⟨H, o, none⟩ = cur[o]? := fun o => by simp [World.cell?, hw, hcur]
  refine ⟨hm, Or.inr ⟨H, 0, rfl, Nat.lt_of_lt_of_le hHl hs, fun j hj => ?_⟩⟩
  obtain ⟨e0, e1, e2, e3, e4, e5, e6, e7, e8⟩ := hP j hj
  unfold ItemAt
  rw [Nat.zero_add]
  exact ⟨by rw [ce]; exact e0, by rw [ce]; exact e1, by rw [ce]; exact e2, by rw [ce]; exact e3, by rw [ce]; exact e4, by rw [ce]; exact e5, by rw [ce]; exact e6, by rw [ce]; exact e7, by rw [ce]; exact e8⟩

/-- Nine cells of the row are set. -/
def set9 (w : World) (H k : Nat) (it : ItemR) : World :=
  ((((((((w.setCell ⟨H, k * 9, none⟩ (.string it.key)).setCell ⟨H, k * 9 + 1, none⟩ (.int .i64 it.flags)).setCell ⟨H, k * 9 + 2, none⟩ (.int .i64 it.until_)).setCell ⟨H, k * 9 + 3, none⟩ (.int .i64 it.cas)).setCell ⟨H, k * 9 + 4, none⟩ (.int .i64 it.used)).setCell
    ⟨H, k * 9 + 5, none⟩ (.string it.value)).setCell ⟨H, k * 9 + 6, none⟩ (.bool it.far)).setCell ⟨H, k * 9 + 7, none⟩ (.int .i64 it.page)).setCell ⟨H, k * 9 + 8, none⟩ (.int .i64 it.at_)

theorem set9_row {l : List ItemR} {w2 : World} {H k : Nat} {cur : Array Value} (hlt : k < l.length) (hcur : TB 49 w2 H cur) (hcs : cur.size = l.length * 9) (hP : RowI l k cur) (it : ItemR) (hit : l.getD k default = it) :
    ∃ cur', TB 49 (set9 w2 H k it) H cur' ∧ cur'.size = l.length * 9 ∧ RowI l (k + 1) cur' := by
  unfold set9
  refine ⟨_, ((((((((hcur.set (k * 9) _).set (k * 9 + 1) _).set (k * 9 + 2) _).set (k * 9 + 3) _).set (k * 9 + 4) _).set (k * 9 + 5) _).set (k * 9 + 6) _).set (k * 9 + 7) _).set (k * 9 + 8) _, by simp [hcs], ?_⟩
  intro j hj
  by_cases hjk : j = k
  · subst hjk
    rw [hit]
    refine ⟨?_, ?_, ?_, ?_, ?_, ?_, ?_, ?_, ?_⟩ <;> (repeat (first | rw [Array.getElem?_setIfInBounds_self_of_lt (by first | omega | (simp; omega))] | rw [Array.getElem?_setIfInBounds_ne (by omega)]))
  · obtain ⟨e0, e1, e2, e3, e4, e5, e6, e7, e8⟩ := hP j (by omega)
    refine ⟨?_, ?_, ?_, ?_, ?_, ?_, ?_, ?_, ?_⟩ <;> (iterate 9 rw [Array.getElem?_setIfInBounds_ne (by omega)]) <;> assumption

/-- The store lies in blocks from n on: what changes below does not matter. -/
def StoreFrom (n : Nat) (w : World) (s : StoreR) (ia pa : Option Addr) : Prop := ∀ w' : World, w.heap.size ≤ w'.heap.size → (∀ b, n ≤ b → b < w.heap.size → w'.heap[b]? = w.heap[b]?) → StoreIn w' s ia pa

theorem set9_other (w : World) (H k : Nat) (it : ItemR) (b : Nat) (h : b ≠ H) : (set9 w H k it).heap[b]? = w.heap[b]? := by
  unfold set9
  iterate 9 rw [heap_setCell_other _ _ _ _ (show b ≠ H from h)]
theorem set9_size (w : World) (H k : Nat) (it : ItemR) : (set9 w H k it).heap.size = w.heap.size := by
  unfold set9
  simp [World.setCell]
end Go.Proofs.YtogpkbhjobhodaaDoor
